/- Chapter 10: joining two nodes; what comes out of slices.Chunk over a level. -/
import Derived.Test.YtcpfdhammhcoaaaC10V
import Derived.RangeFuncNested
import Derived.RangeFuncBound
import Derived.RangeFuncCalls
import Derived.RangeFuncLeaves
import Derived.Shelf.Abstract
import Derived.WalkKit
import Derived.OwnWalkIn
import Derived.TacticsInMore
import Derived.LoopNIn
import Derived.LoopIn
namespace Go.Proofs.Ytcpfdhammhcoaaa.C10J
open Go.RowKit Mem MemS M10 M10T C01 Rep RepA RW C10T C10V
attribute [local go_sem] Oper.semAt_some
set_option linter.unusedVariables false
set_option maxRecDepth 100000
/-- p and q have got one node above them, the block that was made -/
structure Joined (w w' : World) (p q : Nat) : Prop where
  os : w'.os = w.os
  tape : w'.tape = w.tape
  output : w'.output = w.output
  size : w'.heap.size = w.heap.size + 1
  block : ∀ k, k < w.heap.size → k ≠ p → k ≠ q → w'.heap[k]? = w.heap[k]?
  node : Nd w' w.heap.size 0 (some p) (some q) none
  fst : ∀ x l r a, Nd w p x l r a → Nd w' p x l r (some w.heap.size)
  snd : ∀ x l r a, Nd w q x l r a → Nd w' q x l r (some w.heap.size)
theorem Nd.other {w : World} {b : Nat} {x : Int} {l r a : Option Nat} (h : Nd w b x l r a) {p : Addr} (hp : b ≠ p.block) (u : Value) : Nd (w.setCell p u) b x l r a := (Below.heap_setCell w p u b hp).trans h
theorem joined_of (w : World) {p q : Nat} (hp : p < w.heap.size) (hq : q < w.heap.size) (hne : p ≠ q) :
    Joined w (((w.setCell ⟨p, 3, none⟩ (.pointer (some ⟨w.heap.size, 0, none⟩))).setCell ⟨q, 3, none⟩ (.pointer (some ⟨w.heap.size, 0, none⟩))).alloc (.cells #[.int .i64 0, .pointer (some ⟨p, 0, none⟩), .pointer (some ⟨q, 0, none⟩), .pointer none] NT)) p q := by
  have hs : ((w.setCell ⟨p, 3, none⟩ (.pointer (some ⟨w.heap.size, 0, none⟩))).setCell ⟨q, 3, none⟩ (.pointer (some ⟨w.heap.size, 0, none⟩))).heap.size = w.heap.size := by simp [World.setCell]
  have old : ∀ b x l r a, Nd ((w.setCell ⟨p, 3, none⟩ (.pointer (some ⟨w.heap.size, 0, none⟩))).setCell ⟨q, 3, none⟩ (.pointer (some ⟨w.heap.size, 0, none⟩))) b x l r a → Nd (((w.setCell ⟨p, 3, none⟩ (.pointer (some ⟨w.heap.size, 0, none⟩))).setCell ⟨q, 3, none⟩ (.pointer (some ⟨w.heap.size, 0, none⟩))).alloc (.cells #[.int .i64 0, .pointer (some ⟨p, 0, none⟩), .pointer (some ⟨q, 0, none⟩), .pointer none] NT)) b x l r a :=
    fun b x l r a h => (Below.heap_alloc _ _ b h.lt).trans h
  refine ⟨rfl, rfl, rfl, by rw [World.size_alloc, hs], fun k h1 h2 h3 => ?_, ?_, fun x l r a h => ?_, fun x l r a h => ?_⟩
  · rw [Below.heap_alloc _ _ _ (by rw [hs]; exact h1), Below.heap_setCell _ _ _ _ h3, Below.heap_setCell _ _ _ _ h2]
  · have := World.alloc_heap_new ((w.setCell ⟨p, 3, none⟩ (.pointer (some ⟨w.heap.size, 0, none⟩))).setCell ⟨q, 3, none⟩ (.pointer (some ⟨w.heap.size, 0, none⟩))) (.cells #[.int .i64 0, .pointer (some ⟨p, 0, none⟩), .pointer (some ⟨q, 0, none⟩), .pointer none] NT)
    rw [hs] at this
    exact this
  · exact old _ _ _ _ _ (Nd.other (h.set _) hne _)
  · exact old _ _ _ _ _ ((Nd.other h (by show q ≠ p; omega) _).set _)
theorem ijoin_any (p q : Nat) (w : World) {x x' : Int} {l r a l' r' a' : Option Nat} (hp : Nd w p x l r a) (hq : Nd w q x' l' r' a') (hne : p ≠ q) :
    Calls Try.prog 69 #[.pointer (some ⟨p, 0, none⟩), .pointer (some ⟨q, 0, none⟩)] w fun e w' => e = .returned (.pointer (some ⟨w.heap.size, 0, none⟩)) ∧ Joined w w' p q := by
  have HJ := Lib.hid (joined_of w hp.lt hq.lt hne)
  have c3 := hp.cells.2.2.2
  have d3 := hq.cells.2.2.2
  have f3 := hp.frozen 3
  have g3 := hq.frozen 3
  have hp1 := hp.lt
  have hq1 := hq.lt
  have hn1 : w.heap.size ≠ p := by omega
  have hn2 : w.heap.size ≠ q := by omega
  unfold pv at c3 d3
  clear hp hq
  go_enter Try.func69, Try.ntmps69
  go_wp2
  go_ret
  exact ⟨rfl, HJ.out⟩
abbrev CHK : Nat := 68
abbrev CHK1 : Nat := 77
/-- blocks s and s + 1 are kept -/
def K2 (s : Nat) (w w' : World) : Prop := ∀ k o, (k = s ∨ k = s + 1) → w.heap[k]? = some o → w'.heap[k]? = some o
theorem K2.refl (s : Nat) (w : World) : K2 s w w := fun _ _ _ h => h
theorem K2.trans {s : Nat} {a b c : World} (h : K2 s a b) (k : K2 s b c) : K2 s a c := fun i o hi ho => k i o hi (h i o hi ho)
/-- the j-th piece of two -/
def piece (g n j : Nat) : Value := .slice (some ⟨g, 2 * j, none⟩) (min 2 (n - 2 * j)) (min 2 (n - 2 * j))
theorem piece_two {g n j : Nat} (h : 2 * j + 1 < n) : piece g n j = .slice (some ⟨g, 2 * j, none⟩) 2 2 := by
  unfold piece
  rw [show min 2 (n - 2 * j) = 2 by omega]
theorem piece_one {g n j : Nat} (h : 2 * j + 1 = n) : piece g n j = .slice (some ⟨g, 2 * j, none⟩) 1 1 := by
  unfold piece
  rw [show min 2 (n - 2 * j) = 1 by omega]
/-- numbers of the pieces -/
abbrev PC (n : Nat) : Type := {j : Nat // 2 * j < n}
def nos {n : Nat} (pre : List (PC n)) : List Nat := pre.map (·.1)
theorem nos_snoc {n k : Nat} {pre : List (PC n)} (h : nos pre = List.range k) (hk : 2 * k < n) : nos (pre ++ [⟨k, hk⟩]) = List.range (k + 1) := by
  unfold nos at h ⊢
  rw [List.map_append, h, List.range_succ]
  rfl
theorem nos_len {n k : Nat} {pre : List (PC n)} (h : nos pre = List.range k) : pre.length = k := by
  have := congrArg List.length h
  simpa [nos] using this
theorem ichunk_any (A : Option Addr) (n c : Nat) (w : World) : Calls Try.prog CHK #[.slice A n c, .int .i64 2] w fun e w' =>
    e = .returned (.func (.func CHK1) #[] #[.pointer (some ⟨w.heap.size, 0, none⟩), .pointer (some ⟨w.heap.size + 1, 0, none⟩)]) ∧ w' = (w.alloc (.cells #[.slice A n c] SPT)).alloc (.cells #[.int .i64 2] 3) := by
  go_enter Try.func68, Try.ntmps68
  go_wp2
  go_ret
  exact ⟨rfl, rfl⟩
set_option maxHeartbeats 2000000 in
/-- the closure, for whatever body keeps its two variables -/
theorem ichunk1_in (m l s g n c : Nat) (hn : n ≤ 1099511627776) (hc : n ≤ c) (J Jx : List (PC n) → World → Prop) (hJ0 : ∀ pre W, J pre W → J pre W.drew)
    (hY : ∀ pre x W, J pre W → pre.length < (n + 1) / 2 → YieldAt Fence.wide (m - 1) Try.prog l #[piece g n x.1] W fun e W' =>
      (e = .returned (.bool true) ∧ J (pre ++ [x]) W' ∧ K2 s W W') ∨ (e = .returned (.bool false) ∧ Jx (pre ++ [x]) W'))
    (W : World) (h1 : W.heap[s]? = some (.cells #[.slice (some ⟨g, 0, none⟩) n c] SPT (0, 0))) (h2 : W.heap[s + 1]? = some (.cells #[.int .i64 2] 3 (0, 0))) (h0 : J [] W) :
    CallsIn Fence.wide m Try.prog CHK1 #[.func (.yield l) #[] #[], .pointer (some ⟨s, 0, none⟩), .pointer (some ⟨s + 1, 0, none⟩)] W fun e W' => (∃ v, e = .returned v) ∧
      ((∃ ys, nos ys = List.range ((n + 1) / 2) ∧ J ys W') ∨ (∃ pre, True ∧ Jx pre W')) := by
  refine callsIn_of_wp Try.func77 rfl trivial ?_ rfl
  simp only [Try.ntmps77, List.size_toArray, List.length_cons, List.length_nil, Nat.reduceAdd, Nat.reduceSub, Array.replicate_succ, Array.replicate_zero, List.push_toArray, List.append_toArray, List.nil_append, List.cons_append]
  gi_wp2
  gi_loopw [4] (fun i wr => ∃ (k : Nat) (pre : List (PC n)), 2 * k ≤ n + 1 ∧ i = .int .i64 ((2 * k : Nat) : Int) ∧ nos pre = List.range k ∧ J pre wr ∧ K2 s W wr) (fun i _ => n + 1 - (intOf i).toNat)
  case atStart => exact ⟨0, [], by omega, rfl, rfl, h0, K2.refl _ _⟩
  case round =>
    obtain ⟨k, pre, hk, rfl, hno, hJs, hnx⟩ := hrel
    have HNO := Lib.hid hno
    clear hno
    have hh1 := hnx _ _ (.inl rfl) h1
    have hh2 := hnx _ _ (.inr rfl) h2
    have c1 : wr.cell? ⟨s, 0, none⟩ = some (.slice (some ⟨g, 0, none⟩) n c) := by simp [World.cell?, hh1]
    have c2 : wr.cell? ⟨s + 1, 0, none⟩ = some (.int .i64 2) := by simp [World.cell?, hh2]
    clear hh1 hh2
    by_cases hlt : 2 * k < n
    · rcases Nat.lt_or_ge (2 * k + 1) n with h2n | h2n
      · have hpe := piece_two (g := g) h2n
        have hJd := hJ0 _ _ hJs
        obtain ⟨fn, tmps, assign, body, hy, hR⟩ := hY _ ⟨k, hlt⟩ wr.drew hJd (by rw [nos_len HNO.out]; omega)
        dsimp only at hy
        rw [hpe] at hy
        have e1 : wr.drew.cell? ⟨s, 0, none⟩ = some (.slice (some ⟨g, 0, none⟩) n c) := c1
        have e2 : wr.drew.cell? ⟨s + 1, 0, none⟩ = some (.int .i64 2) := c2
        have b1 : 2 * k ≤ n := by omega
        have b2 : 2 * k < c := by omega
        have b3 : min (2 : Int) ((n - 2 * k : Nat) : Int) = 2 := by omega
        have b4 : ((2 * k : Nat) : Int) = 2 * (k : Int) := by omega
        have b5 : 2 * (k : Int) < n := by omega
        have b6 : (2 * (k : Int) + 2).toNat - 2 * k = 2 := by omega
        have hb7 : 2 * (k : Int) + 2 ≤ c := by omega
        have HN := Lib.hid (show K2 s W wr.drew from hnx)
        have HK := Lib.hid hk
        have HLT := Lib.hid hlt
        clear hnx hk hJs hJd
        gi_wp2
        gi_region
        all_goals
          gi_wp2
          refine ⟨fun h => by simp [Fence.wide] at h, hR.mono ?_⟩
          rintro e W3 (⟨rfl, hJ3, hk3⟩ | ⟨rfl, hJx3⟩)
          · have HJ := Lib.hid hJ3
            have H3 := Lib.hid (HN.out.trans hk3)
            clear hR hJ3 hk3
            have r1 : W3.cell? ⟨s + 1, 0, none⟩ = some (.int .i64 2) := by
              have := H3.out _ _ (.inr rfl) h2
              simp [World.cell?, this]
            gi_wp2
            go_roundw
            case rel => exact ⟨k + 1, _, by omega, by go_num, nos_snoc HNO.out HLT.out, HJ.out, H3.out⟩
            case measure => simp [intOf]; omega
          · have HX := Lib.hid hJx3
            clear hR hJx3
            gi_wp2
            refine bodyPost_ret (results_none rfl _ _ _) rfl ?_
            exact ⟨⟨_, rfl⟩, .inr ⟨_, trivial, HX.out⟩⟩
      · have hpe := piece_one (g := g) (show 2 * k + 1 = n by omega)
        have hJd := hJ0 _ _ hJs
        obtain ⟨fn, tmps, assign, body, hy, hR⟩ := hY _ ⟨k, hlt⟩ wr.drew hJd (by rw [nos_len HNO.out]; omega)
        dsimp only at hy
        rw [hpe] at hy
        have e1 : wr.drew.cell? ⟨s, 0, none⟩ = some (.slice (some ⟨g, 0, none⟩) n c) := c1
        have e2 : wr.drew.cell? ⟨s + 1, 0, none⟩ = some (.int .i64 2) := c2
        have b1 : 2 * k ≤ n := by omega
        have b2 : 2 * k < c := by omega
        have b3 : min (2 : Int) ((n - 2 * k : Nat) : Int) = 1 := by omega
        have b4 : ((2 * k : Nat) : Int) = 2 * (k : Int) := by omega
        have b5 : 2 * (k : Int) < n := by omega
        have b6 : (2 * (k : Int) + 1).toNat - 2 * k = 1 := by omega
        have hb7 : 2 * (k : Int) + 1 ≤ c := by omega
        have HN := Lib.hid (show K2 s W wr.drew from hnx)
        have HK := Lib.hid hk
        have HLT := Lib.hid hlt
        clear hnx hk hJs hJd
        gi_wp2
        gi_region
        all_goals
          gi_wp2
          refine ⟨fun h => by simp [Fence.wide] at h, hR.mono ?_⟩
          rintro e W3 (⟨rfl, hJ3, hk3⟩ | ⟨rfl, hJx3⟩)
          · have HJ := Lib.hid hJ3
            have H3 := Lib.hid (HN.out.trans hk3)
            clear hR hJ3 hk3
            have r1 : W3.cell? ⟨s + 1, 0, none⟩ = some (.int .i64 2) := by
              have := H3.out _ _ (.inr rfl) h2
              simp [World.cell?, this]
            gi_wp2
            go_roundw
            case rel => exact ⟨k + 1, _, by omega, by go_num, nos_snoc HNO.out HLT.out, HJ.out, H3.out⟩
            case measure => simp [intOf]; omega
          · have HX := Lib.hid hJx3
            clear hR hJx3
            gi_wp2
            refine bodyPost_ret (results_none rfl _ _ _) rfl ?_
            exact ⟨⟨_, rfl⟩, .inr ⟨_, trivial, HX.out⟩⟩
    · have hke : k = (n + 1) / 2 := by omega
      subst hke
      have b5 : ¬ ((2 * ((n + 1) / 2) : Nat) : Int) < n := by omega
      have b6 : ¬ 2 * ((n : Int) + 1) / 2 < n := by omega
      gi_wp2
      go_end0
      exact ⟨⟨_, rfl⟩, .inl ⟨_, HNO.out, hJs⟩⟩
end Go.Proofs.Ytcpfdhammhcoaaa.C10J
