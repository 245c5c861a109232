/- The drawing functions of the statements (chapter 1): what they return, and that they write into nothing but their own cursor. The drawing functions of chapter 2: what they return, and that they write into nothing that was there. The statements' own helpers: 'big', 'at'. -/
import Derived.Test.YtkkkaaboeddkoaaC01
import Derived.Test.YtkkkaaboeddkoaaSL
import Derived.Deep.QuietTactic
import Derived.BigQuiet
import Derived.Deep.Draws
import Derived.OneCell
import Derived.Laws.Bits128
import Derived.Laws.IdiomStrings
import Derived.Test.YtkkkaaboeddkoaaC02B
import Derived.Lib.Hide
import Derived.IntWalk
import Derived.Outline
namespace Go.Proofs.Ytkkkaaboeddkoaa.D01
open Go.RowKit Go.Proofs.Ytkkkaaboeddkoaa.C01 Go.Proofs.Ytkkkaaboeddkoaa.SL
/-- Nothing but block g is written; new blocks lie behind. -/
structure Kept (g : Nat) (w w' : World) : Prop where
  os : w'.os = w.os
  tape : w'.tape = w.tape
  output : w'.output = w.output
  size : w.heap.size ≤ w'.heap.size
  block : ∀ k, k < w.heap.size → k ≠ g → w'.heap[k]? = w.heap[k]?
theorem Kept.refl (g : Nat) (w : World) : Kept g w w := ⟨rfl, rfl, rfl, Nat.le_refl _, fun _ _ _ => rfl⟩
theorem Kept.trans {g : Nat} {a b c : World} (h : Kept g a b) (k : Kept g b c) : Kept g a c :=
  ⟨k.os.trans h.os, k.tape.trans h.tape, k.output.trans h.output, Nat.le_trans h.size k.size, fun i hi hg => (k.block i (Nat.lt_of_lt_of_le hi h.size) hg).trans (h.block i hi hg)⟩
theorem Kept.below {g B : Nat} {w w' : World} (h : Kept g w w') (hB : B ≤ g) (hs : B ≤ w.heap.size) : Below B w w' :=
  ⟨h.os, h.tape, h.output, h.size, fun k hk => h.block k (by omega) (by omega)⟩
theorem Kept.of_below {g : Nat} {w w' : World} (h : Below w.heap.size w w') : Kept g w w' :=
  ⟨h.os, h.tape, h.output, h.size, fun k hk _ => h.block k hk⟩
/-- Block g is a cursor over a row of bytes below block B. -/
def Cur (w : World) (B g : Nat) : Prop :=
  B ≤ g ∧ ∃ (A : Option Addr) (n c : Nat) (i h : Int), w.heap[g]? = some (.cells #[.slice A n c, .int .i64 i, .int .i64 h] 71 (0, 0)) ∧ n ≤ maxLen ∧ 0 ≤ i ∧ i ≤ n ∧ BRow w B A n
theorem Cur.lt {w : World} {B g : Nat} (h : Cur w B g) : g < w.heap.size := by
  obtain ⟨_, A, n, c, i, k, hh, _⟩ := h
  rcases Nat.lt_or_ge g w.heap.size with hlt | hge
  · exact hlt
  · rw [Array.getElem?_eq_none hge] at hh; cases hh
theorem Cur.below {w w' : World} {B g : Nat} (h : Cur w B g) (hb : Below w.heap.size w w') : Cur w' B g := by
  have hl := h.lt
  obtain ⟨h0, A, n, c, i, k, hh, h1, h2, h3, h4⟩ := h
  exact ⟨h0, A, n, c, i, k, (hb.block g hl).trans hh, h1, h2, h3, h4.below (hb.mono (by omega))⟩
/-- What a drawing function leaves: the cursor, and all other blocks as they were. -/
def Dr (B g : Nat) (P : Value → Prop) (w : World) (e : Ending) (w' : World) : Prop := ∃ v, P v ∧ e = .returned v ∧ Cur w' B g ∧ Kept g w w'
def IntIn (a b : Int) (v : Value) : Prop := ∃ x : Int, a ≤ x ∧ x ≤ b ∧ v = .int .i64 x
theorem and255 (n : Int) : 0 ≤ bits .and .i64 n 255 ∧ bits .and .i64 n 255 ≤ 255 := by
  have h : bits .and .i64 n 255 = n % 256 := by
    have h255 : (BitVec.ofInt 64 255).toNat = 2 ^ 8 - 1 := by decide
    have key : (BitVec.ofInt 64 n &&& BitVec.ofInt 64 255).toNat = (n % ((2 ^ 64 : Nat) : Int)).toNat % 2 ^ 8 := by
      rw [BitVec.toNat_and, BitVec.toNat_ofInt, h255, Nat.and_two_pow_sub_one_eq_mod]
    show IntKind.i64.wrap ((BitVec.ofInt 64 n &&& BitVec.ofInt 64 255).toNat : Nat) = n % 256
    rw [key, IntKind.wrap_i64]
    omega
  rw [h]; omega
theorem heap_set {w : World} {g : Nat} {t : TypeId} {cs : Array Value} (h : w.heap[g]? = some (.cells cs t (0, 0))) (i : Nat) (u : Value) : (w.setCell ⟨g, i, none⟩ u).heap[g]? = some (.cells (cs.setIfInBounds i u) t (0, 0)) := by
  simp [World.setCell, Array.getElem?_modify, h]
theorem Kept.set_ {g : Nat} {a w : World} (h : Kept g a w) (i : Nat) (u : Value) : Kept g a (w.setCell ⟨g, i, none⟩ u) :=
  h.trans ⟨rfl, rfl, rfl, by simp [World.setCell], fun k _ hk => Below.heap_setCell _ _ _ _ hk⟩
theorem Kept.drewN {g : Nat} {a w : World} (h : Kept g a w) (n : Nat) : Kept g a (w.drewN n) :=
  h.trans ⟨rfl, rfl, rfl, Nat.le_refl _, fun _ _ _ => rfl⟩
set_option maxHeartbeats 1000000 in
theorem l1Byte_any (w : World) (B g : Nat) (hc : Cur w B g) : Calls Try.prog 63 #[.pointer (some ⟨g, 0, none⟩)] w (Dr B g (IntIn 0 255) w) := by
  obtain ⟨hB, A, n, c, i, h, hh, hn, hi0, hi1, hrow⟩ := hc
  unfold maxLen at hn
  have c0 : w.cell? ⟨g, 0, none⟩ = some (.slice A n c) := by simp [World.cell?, hh]
  have c1 : w.cell? ⟨g, 1, none⟩ = some (.int .i64 i) := by simp [World.cell?, hh]
  have c2 : w.cell? ⟨g, 2, none⟩ = some (.int .i64 h) := by simp [World.cell?, hh]
  have f2 : w.frozen? ⟨g, 2, none⟩ = false := by simp [World.frozen?, hh]
  have f1 : w.frozen? ⟨g, 1, none⟩ = false := by simp [World.frozen?, hh]
  have hgl : g < w.heap.size := by
    rcases Nat.lt_or_ge g w.heap.size with hlt | hge
    · exact hlt
    · rw [Array.getElem?_eq_none hge] at hh; cases hh
  have HH := Lib.hid hh
  have HR := Lib.hid hrow
  clear hh hrow
  by_cases hlt : i < n
  · obtain ⟨k, rfl⟩ : ∃ k : Nat, i = (k : Int) := ⟨i.toNat, by omega⟩
    obtain ⟨b, off, rfl, hb, hcell⟩ := HR.out (by omega)
    obtain ⟨x, hx0, hx1, hx⟩ := hcell k (by omega)
    have hx' : ∀ v, (w.setCell ⟨g, 2, none⟩ v).cell? ⟨b, off + k, none⟩ = some (.int .u8 x) := fun v => by
      rw [World.cell?_setCell_other w _ _ v (fun e => by injection e with e1; omega)]; exact hx
    clear hcell hx
    go_enter Try.func63, Try.ntmps63
    go_wp2
    go_quiet (fail)
    go_wp2
    go_quiet (fail)
    go_wp2
    go_quiet (fail)
    go_wp2
    go_ret
    refine ⟨_, ⟨_, (and255 _).1, (and255 _).2, rfl⟩, rfl, ⟨hB, _, n, c, k + 1, _, heap_set (heap_set HH.out _ _) _ _, by unfold maxLen; omega, by omega, by omega, HR.out.below ?_⟩, ?_⟩
    · exact Kept.below (g := g) (by repeat (first | exact Kept.refl _ _ | apply Kept.drewN | apply Kept.set_)) hB (by omega)
    · repeat (first | exact Kept.refl _ _ | apply Kept.drewN | apply Kept.set_)
  · go_enter Try.func63, Try.ntmps63
    go_wp2
    go_quiet (fail)
    go_wp2
    go_quiet (fail)
    go_wp2
    go_ret
    refine ⟨_, ⟨_, (and255 _).1, (and255 _).2, rfl⟩, rfl, ⟨hB, _, n, c, i, _, heap_set HH.out _ _, by unfold maxLen; omega, hi0, hi1, HR.out.below ?_⟩, ?_⟩
    · exact Kept.below (g := g) (by repeat (first | exact Kept.refl _ _ | apply Kept.drewN | apply Kept.set_)) hB (by omega)
    · repeat (first | exact Kept.refl _ _ | apply Kept.drewN | apply Kept.set_)
set_option maxRecDepth 100000 in
set_option maxHeartbeats 1000000 in
theorem l1New_any (w : World) (A : Option Addr) (n c : Nat) (hn : n ≤ maxLen) (hr : BRow w w.heap.size A n) :
    Calls Try.prog 37 #[.slice A n c] w fun e w' => ∃ g, e = .returned (.pointer (some ⟨g, 0, none⟩)) ∧ Cur w' w.heap.size g ∧ Below w.heap.size w w' := by
  have hn' := hn
  unfold maxLen at hn'
  go_enter Try.func37, Try.ntmps37
  go_wp2
  go_loop [3, 4] (fun h i => ∃ (k : Nat) (x : Int), k ≤ n ∧ i = .int .i64 k ∧ h = .int .i64 x) (fun _ i => n - (intOf i).toNat)
  case atStart => exact ⟨0, _, by omega, rfl, rfl⟩
  case round =>
    obtain ⟨k, x, hk, rfl, rfl⟩ := hrel
    by_cases hlt : k < n
    · by_cases h4 : k < 4000
      · obtain ⟨b, off, rfl, hb, hcell⟩ := hr (by omega)
        obtain ⟨y, hy0, hy1, hy⟩ := hcell k hlt
        clear hcell hr
        go_wp2
        exact ⟨⟨k + 1, _, by omega, by go_num, rfl⟩, by simp [intOf]; omega⟩
      · have h4' : ¬ (k : Int) < 4000 := by omega
        go_wp2
        go_ret
        exact ⟨_, rfl, ⟨Nat.le_refl _, A, n, c, 0, _, heap_alloc_new _ _, hn, by omega, by omega, hr.below ((Below.refl _ _).alloc (Nat.le_refl _) _)⟩, (Below.refl _ _).alloc (Nat.le_refl _) _⟩
    · go_wp2
      go_ret
      exact ⟨_, rfl, ⟨Nat.le_refl _, A, n, c, 0, _, heap_alloc_new _ _, hn, by omega, by omega, hr.below ((Below.refl _ _).alloc (Nat.le_refl _) _)⟩, (Below.refl _ _).alloc (Nat.le_refl _) _⟩
theorem Dr.below {B g : Nat} {P : Value → Prop} {w w' : World} {e : Ending} (h : Dr B g P w e w') (hB : B ≤ g) (hg : g < w.heap.size) : Below B w w' := by
  obtain ⟨v, _, _, _, hk⟩ := h
  exact hk.below hB (by omega)
set_option maxHeartbeats 1000000 in
/-- 0 .. n-1; 0 where n is not above 0. -/
theorem l1Below_any (n : Int) (w : World) (B g : Nat) (hc : Cur w B g) : Calls Try.prog 41 #[.pointer (some ⟨g, 0, none⟩), .int .i64 n] w (Dr B g (fun v => ∃ x : Int, 0 ≤ x ∧ (x < n ∨ x = 0) ∧ v = .int .i64 x) w) := by
  by_cases h0 : n ≤ 0
  · go_enter Try.func41, Try.ntmps41
    go_wp2
    go_ret
    exact ⟨_, ⟨0, by omega, .inr rfl, rfl⟩, rfl, hc, Kept.refl _ _⟩
  · by_cases h1 : n ≤ 256
    · go_enter Try.func41, Try.ntmps41
      go_wp2_with fail
      refine (l1Byte_any _ B g hc).mono ?_
      rintro e w1 ⟨v, ⟨x, hx0, hx1, rfl⟩, rfl, hc1, hk1⟩
      go_wp2
      go_ret
      exact ⟨_, ⟨x % n, Int.emod_nonneg _ (by omega), .inl (Int.emod_lt_of_pos _ (by omega)), rfl⟩, rfl, hc1, hk1⟩
    · go_enter Try.func41, Try.ntmps41
      go_wp2_with fail
      refine (l1Byte_any _ B g hc).mono ?_
      rintro e w1 ⟨v, ⟨x, hx0, hx1, rfl⟩, rfl, hc1, hk1⟩
      go_wp2_with fail
      refine (l1Byte_any _ B g hc1).mono ?_
      rintro e w2 ⟨v, ⟨y, hy0, hy1, rfl⟩, rfl, hc2, hk2⟩
      go_wp2_with fail
      refine (l1Byte_any _ B g hc2).mono ?_
      rintro e w3 ⟨v, ⟨z, hz0, hz1, rfl⟩, rfl, hc3, hk3⟩
      go_wp2
      go_ret
      exact ⟨_, ⟨(x * 65536 + y * 256 + z) % n, Int.emod_nonneg _ (by omega), .inl (Int.emod_lt_of_pos _ (by omega)), rfl⟩, rfl, hc3, (hk1.trans hk2).trans hk3⟩
/-- The choice of one of n. -/
theorem l1Below_pos (n : Int) (w : World) (B g : Nat) (hn : 0 < n) (hc : Cur w B g) : Calls Try.prog 41 #[.pointer (some ⟨g, 0, none⟩), .int .i64 n] w (Dr B g (fun v => ∃ k : Nat, (k : Int) < n ∧ v = .int .i64 k) w) :=
  (l1Below_any n w B g hc).mono fun e w' ⟨v, ⟨x, h0, h1, hv⟩, he, h2, h3⟩ => ⟨v, ⟨x.toNat, by omega, by rw [hv, Int.toNat_of_nonneg h0]⟩, he, h2, h3⟩
set_option maxHeartbeats 400000 in
theorem l1Once_any (n : Int) (w : World) (B g : Nat) (hc : Cur w B g) : Calls Try.prog 39 #[.pointer (some ⟨g, 0, none⟩), .int .i64 n] w (Dr B g (fun v => ∃ b : Bool, v = .bool b) w) := by
  go_enter Try.func39, Try.ntmps39
  go_wp2_with fail
  refine (l1Below_any _ _ B g hc).mono ?_
  rintro e w1 ⟨v, ⟨x, hx0, hx1, rfl⟩, rfl, hc1, hk1⟩
  have HX := Lib.hid hx1
  clear hx1
  go_wp2
  go_ret
  exact ⟨_, ⟨_, rfl⟩, rfl, hc1, hk1⟩
/-- The first n cells from A on are integers, in memory that is older than what comes. -/
def IRow (w : World) (g : Nat) (A : Option Addr) (n : Nat) : Prop :=
  ∃ b off, A = some ⟨b, off, none⟩ ∧ b < w.heap.size ∧ b ≠ g ∧ ∀ j, j < n → ∃ x : Int, w.cell? ⟨b, off + j, none⟩ = some (.int .i64 x) ∧ (Lit.int .i64 x).wf = true
theorem IRow.kept {w w' : World} {g : Nat} {A : Option Addr} {n : Nat} (h : IRow w g A n) (hk : Kept g w w') : IRow w' g A n := by
  obtain ⟨b, off, e, hlt, hne, hc⟩ := h
  exact ⟨b, off, e, Nat.lt_of_lt_of_le hlt hk.size, hne, fun j hj => by
    obtain ⟨x, hx, hw⟩ := hc j hj
    exact ⟨x, (World.cell?_of_block (w := w) (a := ⟨b, off + j, none⟩) (hk.block b hlt hne)).trans hx, hw⟩⟩
def SRow (w : World) (g : Nat) (A : Option Addr) (n m : Nat) : Prop :=
  ∃ b off, A = some ⟨b, off, none⟩ ∧ b < w.heap.size ∧ b ≠ g ∧ ∀ j, j < n → ∃ s : ByteArray, w.cell? ⟨b, off + j, none⟩ = some (.string s) ∧ s.size ≤ m
theorem SRow.kept {w w' : World} {g : Nat} {A : Option Addr} {n m : Nat} (h : SRow w g A n m) (hk : Kept g w w') : SRow w' g A n m := by
  obtain ⟨b, off, e, hlt, hne, hc⟩ := h
  exact ⟨b, off, e, Nat.lt_of_lt_of_le hlt hk.size, hne, fun j hj => by
    obtain ⟨x, hx, hw⟩ := hc j hj
    exact ⟨x, (World.cell?_of_block (w := w) (a := ⟨b, off + j, none⟩) (hk.block b hlt hne)).trans hx, hw⟩⟩
set_option maxHeartbeats 400000 in
theorem l1Int_any (A : Option Addr) (n c : Nat) (hn : 0 < n) (w : World) (B g : Nat) (hc : Cur w B g) (hr : IRow w g A n) :
    Calls Try.prog 61 #[.pointer (some ⟨g, 0, none⟩), .slice A n c] w (Dr B g (fun v => ∃ x : Int, (Lit.int .i64 x).wf = true ∧ v = .int .i64 x) w) := by
  go_enter Try.func61, Try.ntmps61
  go_wp2_with fail
  refine (l1Below_pos _ _ B g (by omega) hc).mono ?_
  rintro e w1 ⟨v, ⟨k, hk, rfl⟩, rfl, hc1, hk1⟩
  obtain ⟨b, off, rfl, hlt, hne, hcell⟩ := hr.kept hk1
  obtain ⟨x, hx, hw⟩ := hcell k (by omega)
  clear hcell hr
  go_wp2
  go_ret
  exact ⟨_, ⟨x, hw, rfl⟩, rfl, hc1, hk1⟩
def allInts (cs : Array Value) : Bool := cs.toList.all fun v => match v with | .int .i64 x => (Lit.int .i64 x).wf | _ => false
def allStrs (m : Nat) (cs : Array Value) : Bool := cs.toList.all fun v => match v with | .string s => decide (s.size ≤ m) | _ => false
theorem IRow.new {w : World} {g : Nat} {cs : Array Value} {t : TypeId} (hg : g < w.heap.size) {n : Nat} (h : allInts cs = true) (hn : n = cs.size) : IRow (w.alloc (.cells cs t)) g (some ⟨w.heap.size, 0, none⟩) n := by
  subst hn
  refine ⟨w.heap.size, 0, rfl, by simp, by omega, fun j hj => ?_⟩
  have hm : cs[j] ∈ cs.toList := by rw [← Array.getElem_toList]; exact List.getElem_mem _
  have h1 := (List.all_eq_true.1 h) _ hm
  have h2 : (w.alloc (.cells cs t)).cell? ⟨w.heap.size, 0 + j, none⟩ = some cs[j] := by rw [World.cell?_alloc_mark]; simp [hj]
  generalize cs[j] = v at *
  split at h1
  · exact ⟨_, h2, h1⟩
  · cases h1
theorem SRow.new {w : World} {g m : Nat} {cs : Array Value} {t : TypeId} (hg : g < w.heap.size) {n : Nat} (h : allStrs m cs = true) (hn : n = cs.size) : SRow (w.alloc (.cells cs t)) g (some ⟨w.heap.size, 0, none⟩) n m := by
  subst hn
  refine ⟨w.heap.size, 0, rfl, by simp, by omega, fun j hj => ?_⟩
  have hm : cs[j] ∈ cs.toList := by rw [← Array.getElem_toList]; exact List.getElem_mem _
  have h1 := (List.all_eq_true.1 h) _ hm
  have h2 : (w.alloc (.cells cs t)).cell? ⟨w.heap.size, 0 + j, none⟩ = some cs[j] := by rw [World.cell?_alloc_mark]; simp [hj]
  generalize cs[j] = v at *
  split at h1
  · exact ⟨_, h2, of_decide_eq_true h1⟩
  · cases h1
theorem Cur.alloc {w : World} {B g : Nat} (h : Cur w B g) (o : Obj) : Cur (w.alloc o) B g := h.below ((Below.refl _ _).alloc (Nat.le_refl _) _)
theorem Kept.alloc {g : Nat} {a w : World} (h : Kept g a w) (o : Obj) : Kept g a (w.alloc o) := h.trans (Kept.of_below ((Below.refl _ _).alloc (Nat.le_refl _) _))
/-- Any int. -/
def AnyInt (v : Value) : Prop := ∃ x : Int, (Lit.int .i64 x).wf = true ∧ v = .int .i64 x
theorem wf64 {x : Int} (h0 : -9223372036854775808 ≤ x) (h1 : x ≤ 9223372036854775807) : (Lit.int .i64 x).wf = true := by
  have e1 : IntKind.i64.min = -9223372036854775808 := rfl
  have e2 : IntKind.i64.max = 9223372036854775807 := rfl
  simp [Lit.wf, e1, e2]; omega
theorem wf_wrap64 (x : Int) : (Lit.int .i64 (wrap64 x)).wf = true := wf64 (by unfold wrap64; omega) (by unfold wrap64; omega)
end Go.Proofs.Ytkkkaaboeddkoaa.D01
namespace Go.Proofs.Ytkkkaaboeddkoaa.D02
set_option linter.unusedVariables false
open Go.RowKit Mem M02 C01 C02 C02R C02B D01 SL
theorem rd_brow {w : World} {B n : Nat} {A : Option Addr} {zs : List Int} (h : Rd .u8 w B A n zs) : BRow w B A n := fun hn => by
  obtain ⟨b, off, e, hlt, hc⟩ := h.cells hn
  refine ⟨b, off, e, hlt, fun j hj => ?_⟩
  have := byt_in h.wf (zs.getD j 0) (by have hl := h.len; simp [List.getD, List.getElem?_eq_getElem (show j < zs.length by omega)])
  exact ⟨_, this.1, this.2, hc j hj⟩
theorem cur_low {w w' : World} {B g : Nat} (h : Cur w B g) (hb : Below (g + 1) w w') : Cur w' B g := by
  obtain ⟨h0, A, n, c, i, k, hh, h1, h2, h3, h4⟩ := h
  exact ⟨h0, A, n, c, i, k, (hb.block g (by omega)).trans hh, h1, h2, h3, h4.below (hb.mono (by omega))⟩
theorem own_kept {k : IntKind} {w w' : World} {g lo hi n c : Nat} {A : Option Addr} {zs : List Int} (h : Own k w lo hi A n c zs) (hk : Kept g w w') (hg : g < lo) : Own k w' lo hi A n c zs :=
  h.keep fun i h0 h1 _ => hk.block i h0 (by omega)
theorem kept_then {w w' w'' : World} {g : Nat} (h : Kept g w w') (hb : Below w.heap.size w' w'') : Kept g w w'' :=
  ⟨hb.os.trans h.os, hb.tape.trans h.tape, hb.output.trans h.output, Nat.le_trans h.size hb.size, fun i hi hne => (hb.block i hi).trans (h.block i hi hne)⟩
end Go.Proofs.Ytkkkaaboeddkoaa.D02
namespace Go.Proofs.Ytkkkaaboeddkoaa.TB
open Go.RowKit SL
set_option linter.unusedVariables false
theorem big_yes (A : Option Addr) (n c : Nat) (w : World) (h : 1048576 < n) : Calls Try.prog 10 #[.slice A n c] w fun e w' => e = .returned (.bool true) ∧ w = w' := by
  have h' : 1048576 < (n : Int) := by omega
  go_enter Try.func10, Try.ntmps10
  go_wp2
  go_ret
  simp
theorem big_no (A : Option Addr) (n c : Nat) (w : World) (h : n ≤ 1048576) : Calls Try.prog 10 #[.slice A n c] w fun e w' => e = .returned (.bool false) ∧ w = w' := by
  have h' : ¬ 1048576 < (n : Int) := by omega
  go_enter Try.func10, Try.ntmps10
  go_wp2
  go_ret
  simp
end Go.Proofs.Ytkkkaaboeddkoaa.TB
