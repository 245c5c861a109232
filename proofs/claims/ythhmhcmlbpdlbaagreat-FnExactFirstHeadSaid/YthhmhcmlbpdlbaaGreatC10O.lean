/- A region of a loop's body that draws its order, within a round of a range over a function: its walk is that of the same region outside of any round, if it defers nothing. Chapter 10: joining two nodes; what comes out of slices.Chunk over a level. Chapter 10: levels of nodes in memory: the row of their addresses, and what a round of levelAbove does to it. Chapter 10: one level up: levelAbove. Chapter 10: the tree over a list of leaves: treeOver. -/
import Derived.RangeFuncCalls
import Derived.OrdersIn
import Derived.RegionTactic
import Derived.TacticsIn
import Derived.Test.YthhmhcmlbpdlbaaGreatC10V
import Derived.RangeFuncNested
import Derived.RangeFuncBound
import Derived.RangeFuncLeaves
import Derived.Shelf.Abstract
import Derived.WalkKit
import Derived.OwnWalkIn
import Derived.TacticsInMore
import Derived.LoopNIn
import Derived.LoopIn
namespace Go.Proofs.YthhmhcmlbpdlbaaGreat.RR
open Go Go.RowKit
set_option linter.unusedVariables false
theorem rows_wide {n : Nat} {P : Program} {row : String} {args : Array Value} {w : World} {R : Value → World → Prop} (h : Rows P row args w R) : RowsIn Fence.wide n P row args w R :=
  fun c cs _ => let ⟨v, w', r, s⟩ := h c cs; ⟨v, w', r, stepsIn_wide.2 s⟩
variable {l n : Nat} {P : Program} {Q : Exit → Act → World → Prop}
theorem oper_round {o : Oper} (hd : ∀ c, o.op ≠ .defer c) {a : Act} {w : World} {K : Act → World → Prop} (h : o.wp P a w K Q) : o.wpIn (Fence.wide.inRound l) n P a w K Q := by
  unfold Oper.wp at h
  unfold Oper.wpIn
  refine ⟨fun _ _ => trivial, ?_⟩
  show o.uponIn (Fence.wide.inRound l) n P a K Q ((o.semAt (some l) a.eval).run P w)
  rw [Oper.semAt_some l _ o hd]
  generalize (execOp a.eval o).run P w = r at *
  cases r with
  | ok x w' =>
    cases x <;> simp only [Oper.upon, Oper.uponIn] at h ⊢
    case value u => exact h
    case skip => exact h
    case defer d => exact h
    case enter f args => exact ⟨fun e => by simp [Fence.inRound, Fence.wide] at e, CallsIn.inRound l (callsIn_wide.2 h)⟩
    case row row args => exact ⟨fun e => by simp [Fence.inRound, Fence.wide] at e, rows_wide h⟩
  | halt x w' =>
    cases x <;> simp only [Oper.upon, Oper.uponIn] at h ⊢
    case panic u => exact h
theorem any_round {ops : Array Oper} {md : Region.Mode} (hd : ∀ (i : Nat) (o : Oper), ops[i]? = some o → ∀ c, o.op ≠ .defer c) (hQ : ∀ a w, ¬ Q .outgrown a w) : ∀ (fuel : Nat) (listed : Array Bool) (a : Act) (w : World), wpAny P md ops Q fuel listed a w → wpAnyIn (Fence.wide.inRound l) n P md ops Q fuel listed a w
  | 0, _, _, _, h => h
  | fuel + 1, listed, a, w, ⟨h1, h2⟩ => by
    refine ⟨h1, fun i hi => ?_⟩
    have h3 := h2 i hi
    unfold wpOp at h3
    unfold wpOpIn
    cases ho : ops[i]? with
    | none =>
      rw [ho] at h3
      exact any_round hd hQ fuel _ _ _ h3
    | some o =>
      rw [ho] at h3
      dsimp only at h3 ⊢
      split
      · rename_i hw
        rw [if_pos hw] at h3
        rcases h3 with h3 | ⟨_, a', w', h3⟩
        · exact oper_round (hd i o ho) (Oper.wp_mono (fun a w => any_round hd hQ fuel _ a w) h3)
        · exact (hQ a' w' h3).elim
      · rename_i hw
        rw [if_neg hw] at h3
        exact ⟨fun _ _ => trivial, any_round hd hQ fuel _ _ _ h3⟩
theorem region_round {id : Nat} {ops : Array Oper} {a : Act} {w : World} (hm : P.follows .mixedOrders = true) (hd : (ops.toList.all fun o => match o.op with | .defer _ => false | _ => true) = true) (hQ : ∀ a w, ¬ Q .outgrown a w)
    (h : wpAny P .any ops Q ops.size (Array.replicate ops.size false) a w.drew) : (Code.region id ops true).wpIn (Fence.wide.inRound l) n P Q a w := by
  refine wpIn_region_any hm (any_round (fun i o ho c hc => ?_) hQ _ _ _ _ h)
  have := List.all_eq_true.1 hd o (Array.mem_toList_iff.2 (Array.mem_of_getElem? ho))
  rw [hc] at this
  cases this
end Go.Proofs.YthhmhcmlbpdlbaaGreat.RR
namespace Go.Proofs.YthhmhcmlbpdlbaaGreat.C10J
open Go.RowKit Mem MemS M10 M10T C01 Rep RepA RW C10T C10V
attribute [local go_sem] Oper.semAt_some
set_option linter.unusedVariables false
set_option maxRecDepth 100000
/-- p and q have got one node above them, the block that was made -/
structure Joined (w w' : World) (p q : Nat) : Prop where
  os : w'.os = w.os
  tape : w'.tape = w.tape
  output : w'.output = w.output
  size : w'.heap.size = w.heap.size + 1
  block : ∀ k, k < w.heap.size → k ≠ p → k ≠ q → w'.heap[k]? = w.heap[k]?
  node : Nd w' w.heap.size 0 (some p) (some q) none
  fst : ∀ x l r a, Nd w p x l r a → Nd w' p x l r (some w.heap.size)
  snd : ∀ x l r a, Nd w q x l r a → Nd w' q x l r (some w.heap.size)
theorem Nd.other {w : World} {b : Nat} {x : Int} {l r a : Option Nat} (h : Nd w b x l r a) {p : Addr} (hp : b ≠ p.block) (u : Value) : Nd (w.setCell p u) b x l r a := (Below.heap_setCell w p u b hp).trans h
theorem joined_of (w : World) {p q : Nat} (hp : p < w.heap.size) (hq : q < w.heap.size) (hne : p ≠ q) :
    Joined w (((w.setCell ⟨p, 3, none⟩ (.pointer (some ⟨w.heap.size, 0, none⟩))).setCell ⟨q, 3, none⟩ (.pointer (some ⟨w.heap.size, 0, none⟩))).alloc (.cells #[.int .i64 0, .pointer (some ⟨p, 0, none⟩), .pointer (some ⟨q, 0, none⟩), .pointer none] NT)) p q := by
  have hs : ((w.setCell ⟨p, 3, none⟩ (.pointer (some ⟨w.heap.size, 0, none⟩))).setCell ⟨q, 3, none⟩ (.pointer (some ⟨w.heap.size, 0, none⟩))).heap.size = w.heap.size := by simp [World.setCell]
  have old : ∀ b x l r a, Nd ((w.setCell ⟨p, 3, none⟩ (.pointer (some ⟨w.heap.size, 0, none⟩))).setCell ⟨q, 3, none⟩ (.pointer (some ⟨w.heap.size, 0, none⟩))) b x l r a → Nd (((w.setCell ⟨p, 3, none⟩ (.pointer (some ⟨w.heap.size, 0, none⟩))).setCell ⟨q, 3, none⟩ (.pointer (some ⟨w.heap.size, 0, none⟩))).alloc (.cells #[.int .i64 0, .pointer (some ⟨p, 0, none⟩), .pointer (some ⟨q, 0, none⟩), .pointer none] NT)) b x l r a :=
    fun b x l r a h => (Below.heap_alloc _ _ b h.lt).trans h
  refine ⟨rfl, rfl, rfl, by rw [World.size_alloc, hs], fun k h1 h2 h3 => ?_, ?_, fun x l r a h => ?_, fun x l r a h => ?_⟩
  · rw [Below.heap_alloc _ _ _ (by rw [hs]; exact h1), Below.heap_setCell _ _ _ _ h3, Below.heap_setCell _ _ _ _ h2]
  · have := World.alloc_heap_new ((w.setCell ⟨p, 3, none⟩ (.pointer (some ⟨w.heap.size, 0, none⟩))).setCell ⟨q, 3, none⟩ (.pointer (some ⟨w.heap.size, 0, none⟩))) (.cells #[.int .i64 0, .pointer (some ⟨p, 0, none⟩), .pointer (some ⟨q, 0, none⟩), .pointer none] NT)
    rw [hs] at this
    exact this
  · exact old _ _ _ _ _ (Nd.other (h.set _) hne _)
  · exact old _ _ _ _ _ ((Nd.other h (by show q ≠ p; omega) _).set _)
theorem ijoin_any (p q : Nat) (w : World) {x x' : Int} {l r a l' r' a' : Option Nat} (hp : Nd w p x l r a) (hq : Nd w q x' l' r' a') (hne : p ≠ q) :
    Calls Tryz.prog 162 #[.pointer (some ⟨p, 0, none⟩), .pointer (some ⟨q, 0, none⟩)] w fun e w' => e = .returned (.pointer (some ⟨w.heap.size, 0, none⟩)) ∧ Joined w w' p q := by
  have HJ := Lib.hid (joined_of w hp.lt hq.lt hne)
  have c3 := hp.cells.2.2.2
  have d3 := hq.cells.2.2.2
  have f3 := hp.frozen 3
  have g3 := hq.frozen 3
  have hp1 := hp.lt
  have hq1 := hq.lt
  have hn1 : w.heap.size ≠ p := by omega
  have hn2 : w.heap.size ≠ q := by omega
  unfold pv at c3 d3
  clear hp hq
  go_enter Tryz.func162, Tryz.ntmps162
  go_wp2
  go_ret
  exact ⟨rfl, HJ.out⟩
abbrev CHK : Nat := 161
abbrev CHK1 : Nat := 178
/-- blocks s and s + 1 are kept -/
def K2 (s : Nat) (w w' : World) : Prop := ∀ k o, (k = s ∨ k = s + 1) → w.heap[k]? = some o → w'.heap[k]? = some o
theorem K2.refl (s : Nat) (w : World) : K2 s w w := fun _ _ _ h => h
theorem K2.trans {s : Nat} {a b c : World} (h : K2 s a b) (k : K2 s b c) : K2 s a c := fun i o hi ho => k i o hi (h i o hi ho)
/-- the j-th piece of two -/
def piece (g n j : Nat) : Value := .slice (some ⟨g, 2 * j, none⟩) (min 2 (n - 2 * j)) (min 2 (n - 2 * j))
theorem piece_two {g n j : Nat} (h : 2 * j + 1 < n) : piece g n j = .slice (some ⟨g, 2 * j, none⟩) 2 2 := by
  unfold piece
  rw [show min 2 (n - 2 * j) = 2 by omega]
theorem piece_one {g n j : Nat} (h : 2 * j + 1 = n) : piece g n j = .slice (some ⟨g, 2 * j, none⟩) 1 1 := by
  unfold piece
  rw [show min 2 (n - 2 * j) = 1 by omega]
/-- numbers of the pieces -/
abbrev PC (n : Nat) : Type := {j : Nat // 2 * j < n}
def nos {n : Nat} (pre : List (PC n)) : List Nat := pre.map (·.1)
theorem nos_snoc {n k : Nat} {pre : List (PC n)} (h : nos pre = List.range k) (hk : 2 * k < n) : nos (pre ++ [⟨k, hk⟩]) = List.range (k + 1) := by
  unfold nos at h ⊢
  rw [List.map_append, h, List.range_succ]
  rfl
theorem nos_len {n k : Nat} {pre : List (PC n)} (h : nos pre = List.range k) : pre.length = k := by
  have := congrArg List.length h
  simpa [nos] using this
theorem ichunk_any (A : Option Addr) (n c : Nat) (w : World) : Calls Tryz.prog CHK #[.slice A n c, .int .i64 2] w fun e w' =>
    e = .returned (.func (.func CHK1) #[] #[.pointer (some ⟨w.heap.size, 0, none⟩), .pointer (some ⟨w.heap.size + 1, 0, none⟩)]) ∧ w' = (w.alloc (.cells #[.slice A n c] SPT)).alloc (.cells #[.int .i64 2] 3) := by
  go_enter Tryz.func161, Tryz.ntmps161
  go_wp2
  go_ret
  exact ⟨rfl, rfl⟩
set_option maxHeartbeats 2000000 in
/-- the closure, for whatever body keeps its two variables -/
theorem ichunk1_in (m l s g n c : Nat) (hn : n ≤ 1099511627776) (hc : n ≤ c) (J Jx : List (PC n) → World → Prop) (hJ0 : ∀ pre W, J pre W → J pre W.drew)
    (hY : ∀ pre x W, J pre W → pre.length < (n + 1) / 2 → YieldAt Fence.wide (m - 1) Tryz.prog l #[piece g n x.1] W fun e W' =>
      (e = .returned (.bool true) ∧ J (pre ++ [x]) W' ∧ K2 s W W') ∨ (e = .returned (.bool false) ∧ Jx (pre ++ [x]) W'))
    (W : World) (h1 : W.heap[s]? = some (.cells #[.slice (some ⟨g, 0, none⟩) n c] SPT (0, 0))) (h2 : W.heap[s + 1]? = some (.cells #[.int .i64 2] 3 (0, 0))) (h0 : J [] W) :
    CallsIn Fence.wide m Tryz.prog CHK1 #[.func (.yield l) #[] #[], .pointer (some ⟨s, 0, none⟩), .pointer (some ⟨s + 1, 0, none⟩)] W fun e W' => (∃ v, e = .returned v) ∧
      ((∃ ys, nos ys = List.range ((n + 1) / 2) ∧ J ys W') ∨ (∃ pre, True ∧ Jx pre W')) := by
  refine callsIn_of_wp Tryz.func178 rfl trivial ?_ rfl
  simp only [Tryz.ntmps178, List.size_toArray, List.length_cons, List.length_nil, Nat.reduceAdd, Nat.reduceSub, Array.replicate_succ, Array.replicate_zero, List.push_toArray, List.append_toArray, List.nil_append, List.cons_append]
  gi_wp2
  gi_loopw [4] (fun i wr => ∃ (k : Nat) (pre : List (PC n)), 2 * k ≤ n + 1 ∧ i = .int .i64 ((2 * k : Nat) : Int) ∧ nos pre = List.range k ∧ J pre wr ∧ K2 s W wr) (fun i _ => n + 1 - (intOf i).toNat)
  case atStart => exact ⟨0, [], by omega, rfl, rfl, h0, K2.refl _ _⟩
  case round =>
    obtain ⟨k, pre, hk, rfl, hno, hJs, hnx⟩ := hrel
    have HNO := Lib.hid hno
    clear hno
    have hh1 := hnx _ _ (.inl rfl) h1
    have hh2 := hnx _ _ (.inr rfl) h2
    have c1 : wr.cell? ⟨s, 0, none⟩ = some (.slice (some ⟨g, 0, none⟩) n c) := by simp [World.cell?, hh1]
    have c2 : wr.cell? ⟨s + 1, 0, none⟩ = some (.int .i64 2) := by simp [World.cell?, hh2]
    clear hh1 hh2
    by_cases hlt : 2 * k < n
    · rcases Nat.lt_or_ge (2 * k + 1) n with h2n | h2n
      · have hpe := piece_two (g := g) h2n
        have hJd := hJ0 _ _ hJs
        obtain ⟨fn, tmps, assign, body, hy, hR⟩ := hY _ ⟨k, hlt⟩ wr.drew hJd (by rw [nos_len HNO.out]; omega)
        dsimp only at hy
        rw [hpe] at hy
        have e1 : wr.drew.cell? ⟨s, 0, none⟩ = some (.slice (some ⟨g, 0, none⟩) n c) := c1
        have e2 : wr.drew.cell? ⟨s + 1, 0, none⟩ = some (.int .i64 2) := c2
        have b1 : 2 * k ≤ n := by omega
        have b2 : 2 * k < c := by omega
        have b3 : min (2 : Int) ((n - 2 * k : Nat) : Int) = 2 := by omega
        have b4 : ((2 * k : Nat) : Int) = 2 * (k : Int) := by omega
        have b5 : 2 * (k : Int) < n := by omega
        have b6 : (2 * (k : Int) + 2).toNat - 2 * k = 2 := by omega
        have hb7 : 2 * (k : Int) + 2 ≤ c := by omega
        have HN := Lib.hid (show K2 s W wr.drew from hnx)
        have HK := Lib.hid hk
        have HLT := Lib.hid hlt
        clear hnx hk hJs hJd
        gi_wp2
        gi_region
        all_goals
          gi_wp2
          refine ⟨fun h => by simp [Fence.wide] at h, hR.mono ?_⟩
          rintro e W3 (⟨rfl, hJ3, hk3⟩ | ⟨rfl, hJx3⟩)
          · have HJ := Lib.hid hJ3
            have H3 := Lib.hid (HN.out.trans hk3)
            clear hR hJ3 hk3
            have r1 : W3.cell? ⟨s + 1, 0, none⟩ = some (.int .i64 2) := by
              have := H3.out _ _ (.inr rfl) h2
              simp [World.cell?, this]
            gi_wp2
            go_roundw
            case rel => exact ⟨k + 1, _, by omega, by go_num, nos_snoc HNO.out HLT.out, HJ.out, H3.out⟩
            case measure => simp [intOf]; omega
          · have HX := Lib.hid hJx3
            clear hR hJx3
            gi_wp2
            refine bodyPost_ret (results_none rfl _ _ _) rfl ?_
            exact ⟨⟨_, rfl⟩, .inr ⟨_, trivial, HX.out⟩⟩
      · have hpe := piece_one (g := g) (show 2 * k + 1 = n by omega)
        have hJd := hJ0 _ _ hJs
        obtain ⟨fn, tmps, assign, body, hy, hR⟩ := hY _ ⟨k, hlt⟩ wr.drew hJd (by rw [nos_len HNO.out]; omega)
        dsimp only at hy
        rw [hpe] at hy
        have e1 : wr.drew.cell? ⟨s, 0, none⟩ = some (.slice (some ⟨g, 0, none⟩) n c) := c1
        have e2 : wr.drew.cell? ⟨s + 1, 0, none⟩ = some (.int .i64 2) := c2
        have b1 : 2 * k ≤ n := by omega
        have b2 : 2 * k < c := by omega
        have b3 : min (2 : Int) ((n - 2 * k : Nat) : Int) = 1 := by omega
        have b4 : ((2 * k : Nat) : Int) = 2 * (k : Int) := by omega
        have b5 : 2 * (k : Int) < n := by omega
        have b6 : (2 * (k : Int) + 1).toNat - 2 * k = 1 := by omega
        have hb7 : 2 * (k : Int) + 1 ≤ c := by omega
        have HN := Lib.hid (show K2 s W wr.drew from hnx)
        have HK := Lib.hid hk
        have HLT := Lib.hid hlt
        clear hnx hk hJs hJd
        gi_wp2
        gi_region
        all_goals
          gi_wp2
          refine ⟨fun h => by simp [Fence.wide] at h, hR.mono ?_⟩
          rintro e W3 (⟨rfl, hJ3, hk3⟩ | ⟨rfl, hJx3⟩)
          · have HJ := Lib.hid hJ3
            have H3 := Lib.hid (HN.out.trans hk3)
            clear hR hJ3 hk3
            have r1 : W3.cell? ⟨s + 1, 0, none⟩ = some (.int .i64 2) := by
              have := H3.out _ _ (.inr rfl) h2
              simp [World.cell?, this]
            gi_wp2
            go_roundw
            case rel => exact ⟨k + 1, _, by omega, by go_num, nos_snoc HNO.out HLT.out, HJ.out, H3.out⟩
            case measure => simp [intOf]; omega
          · have HX := Lib.hid hJx3
            clear hR hJx3
            gi_wp2
            refine bodyPost_ret (results_none rfl _ _ _) rfl ?_
            exact ⟨⟨_, rfl⟩, .inr ⟨_, trivial, HX.out⟩⟩
    · have hke : k = (n + 1) / 2 := by omega
      subst hke
      have b5 : ¬ ((2 * ((n + 1) / 2) : Nat) : Int) < n := by omega
      have b6 : ¬ 2 * ((n : Int) + 1) / 2 < n := by omega
      gi_wp2
      go_end0
      exact ⟨⟨_, rfl⟩, .inl ⟨_, HNO.out, hJs⟩⟩
end Go.Proofs.YthhmhcmlbpdlbaaGreat.C10J
namespace Go.Proofs.YthhmhcmlbpdlbaaGreat.C10R
open Go.RowKit Mem MemS M10 M10T C01 Rep RepA RW C10T C10V C10J
set_option linter.unusedVariables false
set_option maxRecDepth 100000
/-- addresses of nodes -/
def RP : Rep Nat := leaf PT (fun b => .pointer (some ⟨b, 0, none⟩)) (fun _ => True)
theorem RP_n : RP.n = 1 := rfl
theorem RP_ty : RP.ty = PT := rfl
theorem und_SPT : Tryz.prog.underlying SPT = some (.slice PT) := by kernel_rfl
theorem info_PT : (Tryz.prog.info? PT).map (fun i => (i.zero, i.size, i.bytes)) = some (some (.pointer none), 1, 8) := by kernel_rfl
theorem tiP : Ti RP SPT := by
  obtain ⟨i, h1, h2, h3, h4⟩ := info_parts info_PT
  exact ⟨und_SPT, by decide, i, _, h1, h2, rfl, h3, by omega⟩
def raws (bs : List Nat) : List (List Value) := bs.map fun b => [.pointer (some ⟨b, 0, none⟩)]
theorem raws_flat : ∀ bs : List Nat, (raws bs).flatten = bs.map fun b => Value.pointer (some ⟨b, 0, none⟩)
  | [] => rfl
  | b :: bs => by
    have := raws_flat bs
    simp only [raws, List.map_cons, List.flatten_cons] at this ⊢
    rw [this]
    rfl
theorem raws_snoc (bs : List Nat) (b : Nat) : raws (bs ++ [b]) = raws bs ++ [[.pointer (some ⟨b, 0, none⟩)]] := by simp [raws]
theorem raws_len (bs : List Nat) : (raws bs).length = bs.length := by simp [raws]
/-- a row of the call's own: these addresses -/
def Row (w : World) (A : Option Addr) (n c : Nat) (bs : List Nat) : Prop := RowR RP w A n c (raws bs)
section
variable {w w' X Y W W1 W2 : World} {A A' : Option Addr} {n c c' N B g s k : Nat} {bs : List Nat} {Ts Us : List T}
theorem Row.len (h : Row w A n c bs) : bs.length = n := by rw [← RowR.len h, raws_len]
theorem Row.blk (h : Row w A n c bs) {a : Addr} (hA : A = some a) : a = ⟨a.block, 0, none⟩ ∧ ∃ cur, w.heap[a.block]? = some (.cells cur PT (0, 0)) := by
  subst hA
  rcases h.row.2 with ⟨h1, _⟩ | ⟨g, cap, cur, h1, _, h3, _⟩
  · cases h1
  · injection h1 with e1
    injection e1 with e1
    subst e1
    exact ⟨rfl, cur, h3⟩
theorem Row.get (h : Row w A n c bs) (hn : 0 < n) : ∃ g, A = some ⟨g, 0, none⟩ ∧ n ≤ c ∧ (∃ cur, w.heap[g]? = some (.cells cur PT (0, 0))) ∧ ∀ j b, bs[j]? = some b → w.cell? ⟨g, j, none⟩ = some (.pointer (some ⟨b, 0, none⟩)) := by
  rcases h.row.2 with ⟨h1, h2⟩ | ⟨g, cap, cur, h1, _, h3, h4, _⟩
  · omega
  · injection h1 with e1 e2 e3
    subst e1 e3
    refine ⟨g, rfl, h4, ⟨cur, h3⟩, fun j b hb => ?_⟩
    have := h.row.cells (g := g) rfl j (.pointer (some ⟨b, 0, none⟩)) (by rw [raws_flat, List.getElem?_map, hb]; rfl)
    rw [add_none, Nat.zero_add] at this
    exact this
theorem Row.keep (h : Row w A n c bs) (hk : ∀ a cur, A = some a → w.heap[a.block]? = some (.cells cur PT (0, 0)) → w'.heap[a.block]? = some (.cells cur PT (0, 0))) : Row w' A n c bs := by
  refine ⟨h.1, h.2, h.row.1, ?_⟩
  rcases h.row.2 with h1 | ⟨g, cap, cur, h1, h2, h3, h4⟩
  · exact .inl h1
  · injection h1 with e1 e2 e3
    subst e1 e3
    exact .inr ⟨g, c, cur, rfl, h2, hk ⟨g, 0, none⟩ cur rfl h3, h4⟩
/-- blocks of cells are kept, and all that lay below N -/
structure Tame (N : Nat) (X Y : World) : Prop where
  os : Y.os = X.os
  tape : Y.tape = X.tape
  output : Y.output = X.output
  size : X.heap.size ≤ Y.heap.size
  cells : ∀ (k : Nat) (cs : Array Value) (t : TypeId), X.heap[k]? = some (Obj.cells cs t (0, 0)) → Y.heap[k]? = some (Obj.cells cs t (0, 0))
  old : ∀ k, k < N → Y.heap[k]? = X.heap[k]?
theorem Tame.grown {row : Option Nat} (hg : X.grownBy Y row) (hr : ∀ r, row = some r → N ≤ r ∧ ∃ o : Obj, X.heap[r]? = some o ∧ o.isCells = false) (hN : N ≤ X.heap.size) : Tame N X Y :=
  ⟨hg.os, hg.tape, hg.output, hg.size, fun k cs t h => (hg.block k (Array.getElem?_eq_some_iff.1 h).1 fun e => by
    obtain ⟨_, o, h1, h2⟩ := hr k e.symm
    rw [h] at h1
    cases h1
    cases h2).trans h, fun k hk => hg.block k (by omega) fun e => by have := (hr k e.symm).1; omega⟩
/-- all blocks are kept but those that S names -/
structure Mv (S : Nat → Prop) (w w' : World) : Prop where
  os : w'.os = w.os
  tape : w'.tape = w.tape
  output : w'.output = w.output
  size : w.heap.size ≤ w'.heap.size
  block : ∀ k, k < w.heap.size → ¬ S k → w'.heap[k]? = w.heap[k]?
theorem Mv.below {S : Nat → Prop} (h : Mv S w w') (hS : ∀ k, S k → N ≤ k) (hN : N ≤ w.heap.size) : Below N w w' := ⟨h.os, h.tape, h.output, h.size, fun k hk => h.block k (by omega) fun hs => by have := hS k hs; omega⟩
theorem Mv.of_below {S : Nat → Prop} (h : Below w.heap.size w w') : Mv S w w' := ⟨h.os, h.tape, h.output, h.size, fun k hk _ => h.block k hk⟩
/-- what has come to be when these pieces are through: in any order all is whole, in their own order the level above stands -/
structure St (w : World) (Ts : List T) (s B : Nat) (pre : List Nat) (W : World) (A : Option Addr) (c : Nat) (bs : List Nat) : Prop where
  len : bs.length = pre.length
  box : Boxed W B SPT (.slice A bs.length c)
  row : Row W A bs.length c bs
  fresh : ∀ a, A = some a → w.heap.size ≤ a.block
  src : ∀ b, b ∈ bs → b ∈ heads Ts ∨ w.heap.size ≤ b
  mv : Mv (· ∈ heads Ts) w W
  nodes : ∀ b, b ∈ heads Ts → ∃ x l r a, Nd W b x l r a
  ch1 : ∃ cs, W.heap[s]? = some (.cells cs SPT (0, 0))
  ch2 : ∃ cs, W.heap[s + 1]? = some (.cells cs 3 (0, 0))
  good : pre = List.range pre.length → ∃ Us, bs = heads Us ∧ Up (Ts.take (2 * pre.length)) Us ∧ Lvl W (Us ++ Ts.drop (2 * pre.length))
theorem St.tame {pre : List Nat} (h : St w Ts s B pre X A c bs) (t : Tame w.heap.size X Y) : St w Ts s B pre Y A c bs :=
  ⟨h.len, t.cells _ _ _ h.box, h.row.keep fun a cur _ e => t.cells _ _ _ e, h.fresh, h.src,
   ⟨t.os.trans h.mv.os, t.tape.trans h.mv.tape, t.output.trans h.mv.output, Nat.le_trans h.mv.size t.size, fun k hk hs => (t.old k hk).trans (h.mv.block k hk hs)⟩,
   fun b hb => (h.nodes b hb).imp fun x h => h.imp fun l h => h.imp fun r h => h.imp fun a h => t.cells _ _ _ h,
   h.ch1.imp fun cs h => t.cells _ _ _ h, h.ch2.imp fun cs h => t.cells _ _ _ h,
   fun e => (h.good e).imp fun Us h => ⟨h.1, h.2.1, h.2.2.keep fun b cs _ e => t.cells _ _ _ e⟩⟩
theorem St.drew {pre : List Nat} (h : St w Ts s B pre X A c bs) : St w Ts s B pre X.drew A c bs := h.tame ⟨rfl, rfl, rfl, Nat.le_refl _, fun _ _ _ h => h, fun _ _ => rfl⟩
theorem head_nd {Ts : List T} (h : Lvl w Ts) {b : Nat} (hb : b ∈ heads Ts) : ∃ cs, w.heap[b]? = some (.cells cs NT (0, 0)) := by
  obtain ⟨t, ht, rfl⟩ := List.mem_map.1 hb
  obtain ⟨⟨x, l, r, hn⟩, _⟩ := (h.is t ht).root
  exact ⟨_, hn⟩
theorem nt_ne {cs cs' : Array Value} {t : TypeId} {b : Nat} (h : w.heap[b]? = some (.cells cs NT (0, 0))) (h' : w.heap[b]? = some (.cells cs' t (0, 0))) : t = NT := by
  rw [h] at h'
  injection h' with h'
  injection h' with _ h'
  exact h'.symm
theorem drew_heap (W : World) : W.drew.heap = W.heap := rfl
theorem drop_two {Ts : List T} {i : Nat} (h : i + 1 < Ts.length) : ∃ l m, Ts[i]? = some l ∧ Ts[i + 1]? = some m ∧ Ts.drop i = l :: m :: Ts.drop (i + 2) ∧ Ts.take (i + 2) = Ts.take i ++ [l, m] := by
  refine ⟨Ts[i], Ts[i + 1], List.getElem?_eq_getElem _, List.getElem?_eq_getElem _, ?_, ?_⟩
  · rw [List.drop_eq_getElem_cons (show i < Ts.length by omega), List.drop_eq_getElem_cons h]
  · rw [show i + 2 = (i + 1) + 1 by omega, List.take_succ_eq_append_getElem h, List.take_succ_eq_append_getElem (show i < Ts.length by omega)]
    simp only [List.append_assoc, List.cons_append, List.nil_append]
theorem drop_one {Ts : List T} {i : Nat} (h : i + 1 = Ts.length) : ∃ l, Ts[i]? = some l ∧ Ts.drop i = [l] ∧ Ts.drop (i + 2) = [] ∧ Ts.take (i + 2) = Ts.take i ++ [l] := by
  refine ⟨Ts[i], List.getElem?_eq_getElem _, ?_, List.drop_eq_nil_of_le (by omega), ?_⟩
  · rw [List.drop_eq_getElem_cons (show i < Ts.length by omega), List.drop_eq_nil_of_le (by omega)]
  · rw [List.take_of_length_le (by omega)]
    conv => lhs; rw [← List.take_of_length_le (show Ts.length ≤ i + 1 by omega), List.take_succ_eq_append_getElem (show i < Ts.length by omega)]
/-- an append of one address onto the row, its store into the box: what is kept -/
theorem pushed (hb : Boxed W1 B SPT (.slice A n c)) (hr : Row W1 A n c bs) {b : Nat} (h2 : RowR RP W2 A' (n + 1) c' (raws bs ++ [[.pointer (some ⟨b, 0, none⟩)]])) (hg : Gr A (W1.alloc (.cells #[.pointer (some ⟨b, 0, none⟩)] PT)) A' W2) :
    Boxed W2 B SPT (.slice A n c) ∧ Boxed (W2.setCell ⟨B, 0, none⟩ (.slice A' (n + 1) c')) B SPT (.slice A' (n + 1) c') ∧ Row (W2.setCell ⟨B, 0, none⟩ (.slice A' (n + 1) c')) A' (n + 1) c' (bs ++ [b]) ∧
    (∀ a, A' = some a → A = some a ∨ W1.heap.size ≤ a.block) ∧
    Mv (fun k => k = B ∨ ∃ a, A = some a ∧ a.block = k) W1 (W2.setCell ⟨B, 0, none⟩ (.slice A' (n + 1) c')) ∧
    (∀ (k : Nat) (o : Obj), W1.heap[k]? = some o → (∀ cs t, o = Obj.cells cs t (0, 0) → t ≠ SPT ∧ t ≠ PT) → (W2.setCell ⟨B, 0, none⟩ (.slice A' (n + 1) c')).heap[k]? = some o) := by
  have hA : ∀ a, A = some a → ∃ cur, W1.heap[a.block]? = some (.cells cur PT (0, 0)) := fun a e => (hr.blk e).2
  have hBA : ∀ a, A = some a → a.block ≠ B := fun a e hne => by
    obtain ⟨cur, h⟩ := hA a e
    rw [hne] at h
    have h' : W1.heap[B]? = _ := hb
    rw [h] at h'
    injection h' with h'
    injection h' with _ h'
    exact absurd h' (by decide)
  have keep : ∀ k, k < W1.heap.size → (∀ a, A = some a → a.block ≠ k) → W2.heap[k]? = W1.heap[k]? := fun k hk hn => by
    rw [Gr.kept hg (by simp; omega) hn]
    exact Below.heap_alloc _ _ _ hk
  have b2 : Boxed W2 B SPT (.slice A n c) := (keep B hb.lt hBA).trans hb
  have hA' : ∀ a, A' = some a → ∃ cur, W2.heap[a.block]? = some (.cells cur PT (0, 0)) := fun a e => by
    have h2' : Row W2 A' (n + 1) c' (bs ++ [b]) := by unfold Row; rw [raws_snoc]; exact h2
    exact (h2'.blk e).2
  have hBA' : ∀ a, A' = some a → B ≠ a.block := fun a e hne => by
    obtain ⟨cur, h⟩ := hA' a e
    rw [← hne] at h
    have h' : W2.heap[B]? = _ := b2
    rw [h] at h'
    injection h' with h'
    injection h' with _ h'
    exact absurd h' (by decide)
  have hsz : W1.heap.size ≤ W2.heap.size := Nat.le_trans (by simp) hg.1.size
  refine ⟨b2, b2.set _, ?_, fun a e => ?_, ⟨?_, ?_, ?_, ?_, fun k hk hn => ?_⟩, fun k o ho ht => ?_⟩
  · have h2' : Row W2 A' (n + 1) c' (bs ++ [b]) := by unfold Row; rw [raws_snoc]; exact h2
    exact h2'.keep fun a cur e h => (Below.heap_setCell _ _ _ _ (fun hne => hBA' a e hne.symm)).trans h
  · rcases hg.2 a e with h | h
    · left
      cases A with
      | none => cases h
      | some a0 =>
        have e1 := (hr.blk rfl).1
        have h2' : Row W2 A' (n + 1) c' (bs ++ [b]) := by unfold Row; rw [raws_snoc]; exact h2
        have e2 := (h2'.blk e).1
        injection h with h
        have h : a0.block = a.block := h
        rw [e1, e2, h]
    · right
      simp at h
      omega
  · exact hg.1.os
  · exact hg.1.tape
  · exact hg.1.output
  · simpa [World.setCell] using hsz
  · rw [Below.heap_setCell _ _ _ _ (fun e => hn (.inl e)), keep k hk fun a e hne => hn (.inr ⟨a, e, hne⟩)]
  · have hk : k < W1.heap.size := (Array.getElem?_eq_some_iff.1 ho).1
    rw [Below.heap_setCell _ _ _ _ fun e => ?_, keep k hk fun a e hne => ?_]
    · exact ho
    · obtain ⟨cur, h⟩ := hA a e
      rw [hne, ho] at h
      injection h with h
      exact (ht _ _ h).2 rfl
    · have h' : W1.heap[B]? = _ := hb
      rw [show k = B from e, h'] at ho
      injection ho with ho
      exact (ht _ _ ho.symm).1 rfl
theorem range_snoc {pre : List Nat} {x : Nat} (h : pre ++ [x] = List.range (pre ++ [x]).length) : pre = List.range pre.length ∧ x = pre.length := by
  rw [List.length_append, List.length_singleton, List.range_succ] at h
  have := List.append_inj' h rfl
  exact ⟨this.1, by simpa using this.2⟩
theorem in_heads {t : T} {i : Nat} (h : Ts[i]? = some t) : t.b ∈ heads Ts := List.mem_map.2 ⟨t, List.mem_of_getElem? h, rfl⟩
/-- a round over a piece of two -/
theorem round_two {pre : List Nat} {x : Nat} {l m : T} (h : St w Ts s B pre W A c bs) (hw : ∀ b, b ∈ heads Ts → b < w.heap.size) (hB : w.heap.size ≤ B) (hBs : B < s) (hl : Ts[2 * x]? = some l) (hm : Ts[2 * x + 1]? = some m)
    (hJ : Joined W W1 l.b m.b) (h2 : RowR RP W2 A' (bs.length + 1) c' (raws bs ++ [[.pointer (some ⟨W.heap.size, 0, none⟩)]])) (hg : Gr A (W1.alloc (.cells #[.pointer (some ⟨W.heap.size, 0, none⟩)] PT)) A' W2) :
    Boxed W2 B SPT (.slice A bs.length c) ∧ St w Ts s B (pre ++ [x]) (W2.setCell ⟨B, 0, none⟩ (.slice A' (bs.length + 1) c')) A' c' (bs ++ [W.heap.size]) ∧
    KeepsFrom N W (W2.setCell ⟨B, 0, none⟩ (.slice A' (bs.length + 1) c')) ∧ K2 s W (W2.setCell ⟨B, 0, none⟩ (.slice A' (bs.length + 1) c')) := by
  have hlh := in_heads hl
  have hmh := in_heads hm
  have hlw := hw _ hlh
  have hmw := hw _ hmh
  have hWs := h.mv.size
  obtain ⟨xl, ll, rl, al, nl⟩ := h.nodes _ hlh
  obtain ⟨xm, lm, rm, am, nm⟩ := h.nodes _ hmh
  have hAW : ∀ a, A = some a → ∃ cur, W.heap[a.block]? = some (.cells cur PT (0, 0)) := fun a e => (h.row.blk e).2
  have ne_nd : ∀ {k : Nat} {cs : Array Value} {t : TypeId} {x' : Int} {l' r' a' : Option Nat} {b : Nat}, W.heap[k]? = some (.cells cs t (0, 0)) → t ≠ NT → Nd W b x' l' r' a' → k ≠ b := fun h1 h2 h3 e => by
    subst e
    exact h2 (nt_ne h3 h1)
  have b1 : Boxed W1 B SPT (.slice A bs.length c) := (hJ.block B h.box.lt (ne_nd h.box (by decide) nl) (ne_nd h.box (by decide) nm)).trans h.box
  have r1 : Row W1 A bs.length c bs := h.row.keep fun a cur e h1 => (hJ.block _ (Array.getElem?_eq_some_iff.1 h1).1 (ne_nd h1 (by decide) nl) (ne_nd h1 (by decide) nm)).trans h1
  obtain ⟨p1, p2, p3, p4, p5, p6⟩ := pushed b1 r1 h2 hg
  have old1 : ∀ (k : Nat) (o : Obj), W.heap[k]? = some o → k ≠ l.b → k ≠ m.b → W1.heap[k]? = some o := fun k o ho h1 h2 => (hJ.block k (Array.getElem?_eq_some_iff.1 ho).1 h1 h2).trans ho
  have nt3 : ∀ (k : Nat) (cs : Array Value), W1.heap[k]? = some (.cells cs NT (0, 0)) → (W2.setCell ⟨B, 0, none⟩ (.slice A' (bs.length + 1) c')).heap[k]? = some (.cells cs NT (0, 0)) := fun k cs hk => p6 k _ hk fun cs' t e => by
    injection e with _ e
    subst e
    exact ⟨by decide, by decide⟩
  have keep3 : ∀ (k : Nat) (o : Obj), W.heap[k]? = some o → k ≠ l.b → k ≠ m.b → k ≠ B → (∀ a, A = some a → a.block ≠ k) → (W2.setCell ⟨B, 0, none⟩ (.slice A' (bs.length + 1) c')).heap[k]? = some o := fun k o ho h1 h2 h3 h4 => by
    have ho1 := old1 k o ho h1 h2
    exact (p5.block k (Array.getElem?_eq_some_iff.1 ho1).1 fun e => by
      rcases e with e | ⟨a, e, e'⟩
      · exact h3 e
      · exact h4 a e e').trans ho1
  have hk2 : K2 s W (W2.setCell ⟨B, 0, none⟩ (.slice A' (bs.length + 1) c')) := fun k o hk ho => by
    have hb : ∃ cs t, W.heap[k]? = some (.cells cs t (0, 0)) ∧ t ≠ NT ∧ t ≠ PT := by
      rcases hk with rfl | rfl
      · obtain ⟨cs, h1⟩ := h.ch1
        exact ⟨cs, _, h1, by decide, by decide⟩
      · obtain ⟨cs, h1⟩ := h.ch2
        exact ⟨cs, _, h1, by decide, by decide⟩
    obtain ⟨cs, t, h1, h2, h3⟩ := hb
    refine keep3 k o ho (ne_nd h1 h2 nl) (ne_nd h1 h2 nm) (by omega) fun a e e' => ?_
    obtain ⟨cur, h4⟩ := hAW a e
    rw [e', h1] at h4
    injection h4 with h4
    injection h4 with _ h4
    exact h3 h4
  refine ⟨p1, ⟨by simp [h.len], ?_, ?_, fun a e => ?_, fun b hb => ?_, ⟨?_, ?_, ?_, ?_, fun k hk hn => ?_⟩, fun b hb => ?_, ?_, ?_, fun e => ?_⟩, ⟨?_, fun k o hk ho hc => ?_⟩, hk2⟩
  · rw [List.length_append, List.length_singleton]
    exact p2
  · rw [List.length_append, List.length_singleton]
    exact p3
  · rcases p4 a e with h1 | h1
    · exact h.fresh a h1
    · have := hJ.size
      omega
  · rcases List.mem_append.1 hb with hb | hb
    · exact h.src b hb
    · right
      rw [List.mem_singleton.1 hb]
      exact hWs
  · exact p5.os.trans (hJ.os.trans h.mv.os)
  · exact p5.tape.trans (hJ.tape.trans h.mv.tape)
  · exact p5.output.trans (hJ.output.trans h.mv.output)
  · have := p5.size
    have := hJ.size
    omega
  · rw [p5.block k (by have := hJ.size; omega) fun e => ?_, hJ.block k (by omega) (fun e => hn (e ▸ hlh)) (fun e => hn (e ▸ hmh)), h.mv.block k hk hn]
    rcases e with e | ⟨a, e, e'⟩
    · omega
    · have := h.fresh a e
      omega
  · obtain ⟨x', l', r', a', hn⟩ := h.nodes b hb
    by_cases e1 : b = l.b
    · subst e1
      exact ⟨_, _, _, _, nt3 _ _ (hJ.fst _ _ _ _ hn)⟩
    · by_cases e2 : b = m.b
      · subst e2
        exact ⟨_, _, _, _, nt3 _ _ (hJ.snd _ _ _ _ hn)⟩
      · exact ⟨_, _, _, _, nt3 _ _ (old1 _ _ hn e1 e2)⟩
  · obtain ⟨cs, h1⟩ := h.ch1
    exact ⟨cs, hk2 _ _ (.inl rfl) h1⟩
  · obtain ⟨cs, h1⟩ := h.ch2
    exact ⟨cs, hk2 _ _ (.inr rfl) h1⟩
  · obtain ⟨e1, e2⟩ := range_snoc e
    obtain ⟨Us, g1, g2, g3⟩ := h.good e1
    subst e2
    rw [List.length_append, List.length_singleton, show 2 * (pre.length + 1) = 2 * pre.length + 2 by omega]
    have hlt := (List.getElem?_eq_some_iff.1 hm).1
    obtain ⟨l', m', q1, q2, q3, q4⟩ := drop_two hlt
    rw [hl] at q1
    rw [hm] at q2
    cases q1
    cases q2
    rw [q3] at g3
    rw [q4]
    refine ⟨Us ++ [.node W.heap.size l m], by simp [heads, g1, T.b], g2.snoc2 (by rw [List.length_take]; omega) _ _ _, ?_⟩
    rw [List.append_assoc]
    refine g3.join (Nat.le_refl _) (fun b cs hb hc => nt3 _ _ (old1 _ _ hc hb.1 hb.2)) (nt3 _ _ hJ.node) (fun x i j hn => nt3 _ _ (hJ.fst _ _ _ _ hn)) (fun x i j hn => nt3 _ _ (hJ.snd _ _ _ _ hn))
  · have := p5.size
    have := hJ.size
    omega
  · have ne_cells : ∀ {j : Nat} {cs : Array Value} {t : TypeId}, W.heap[j]? = some (.cells cs t (0, 0)) → k ≠ j := fun h1 e => by
      subst e
      rw [h1] at ho
      cases ho
      cases hc
    refine keep3 k o ho (ne_cells nl) (ne_cells nm) (ne_cells h.box) fun a e e' => ?_
    obtain ⟨cur, h4⟩ := hAW a e
    exact ne_cells h4 e'.symm
/-- a round over a piece of one -/
theorem round_one {pre : List Nat} {x : Nat} {l : T} (h : St w Ts s B pre W A c bs) (hw : ∀ b, b ∈ heads Ts → b < w.heap.size) (hB : w.heap.size ≤ B) (hBs : B < s) (hl : Ts[2 * x]? = some l) (hx : 2 * x + 1 = Ts.length)
    (h2 : RowR RP W2 A' (bs.length + 1) c' (raws bs ++ [[.pointer (some ⟨l.b, 0, none⟩)]])) (hg : Gr A (W.alloc (.cells #[.pointer (some ⟨l.b, 0, none⟩)] PT)) A' W2) :
    Boxed W2 B SPT (.slice A bs.length c) ∧ St w Ts s B (pre ++ [x]) (W2.setCell ⟨B, 0, none⟩ (.slice A' (bs.length + 1) c')) A' c' (bs ++ [l.b]) ∧
    KeepsFrom N W (W2.setCell ⟨B, 0, none⟩ (.slice A' (bs.length + 1) c')) ∧ K2 s W (W2.setCell ⟨B, 0, none⟩ (.slice A' (bs.length + 1) c')) := by
  have hWs := h.mv.size
  have hAW : ∀ a, A = some a → ∃ cur, W.heap[a.block]? = some (.cells cur PT (0, 0)) := fun a e => (h.row.blk e).2
  obtain ⟨p1, p2, p3, p4, p5, p6⟩ := pushed h.box h.row h2 hg
  have nt3 : ∀ (k : Nat) (cs : Array Value), W.heap[k]? = some (.cells cs NT (0, 0)) → (W2.setCell ⟨B, 0, none⟩ (.slice A' (bs.length + 1) c')).heap[k]? = some (.cells cs NT (0, 0)) := fun k cs hk => p6 k _ hk fun cs' t e => by
    injection e with _ e
    subst e
    exact ⟨by decide, by decide⟩
  have keep3 : ∀ (k : Nat) (o : Obj), W.heap[k]? = some o → k ≠ B → (∀ a, A = some a → a.block ≠ k) → (W2.setCell ⟨B, 0, none⟩ (.slice A' (bs.length + 1) c')).heap[k]? = some o := fun k o ho h3 h4 =>
    (p5.block k (Array.getElem?_eq_some_iff.1 ho).1 fun e => by
      rcases e with e | ⟨a, e, e'⟩
      · exact h3 e
      · exact h4 a e e').trans ho
  have hk2 : K2 s W (W2.setCell ⟨B, 0, none⟩ (.slice A' (bs.length + 1) c')) := fun k o hk ho => by
    have hb : ∃ cs t, W.heap[k]? = some (.cells cs t (0, 0)) ∧ t ≠ NT ∧ t ≠ PT := by
      rcases hk with rfl | rfl
      · obtain ⟨cs, h1⟩ := h.ch1
        exact ⟨cs, _, h1, by decide, by decide⟩
      · obtain ⟨cs, h1⟩ := h.ch2
        exact ⟨cs, _, h1, by decide, by decide⟩
    obtain ⟨cs, t, h1, h2, h3⟩ := hb
    refine keep3 k o ho (by omega) fun a e e' => ?_
    obtain ⟨cur, h4⟩ := hAW a e
    rw [e', h1] at h4
    injection h4 with h4
    injection h4 with _ h4
    exact h3 h4
  refine ⟨p1, ⟨by simp [h.len], ?_, ?_, fun a e => ?_, fun b hb => ?_, ⟨p5.os.trans h.mv.os, p5.tape.trans h.mv.tape, p5.output.trans h.mv.output, Nat.le_trans h.mv.size p5.size, fun k hk hn => ?_⟩, fun b hb => ?_, ?_, ?_, fun e => ?_⟩, ⟨p5.size, fun k o hk ho hc => ?_⟩, hk2⟩
  · rw [List.length_append, List.length_singleton]
    exact p2
  · rw [List.length_append, List.length_singleton]
    exact p3
  · rcases p4 a e with h1 | h1
    · exact h.fresh a h1
    · omega
  · rcases List.mem_append.1 hb with hb | hb
    · exact h.src b hb
    · left
      rw [List.mem_singleton.1 hb]
      exact in_heads hl
  · rw [p5.block k (by omega) fun e => ?_, h.mv.block k hk hn]
    rcases e with e | ⟨a, e, e'⟩
    · omega
    · have := h.fresh a e
      omega
  · obtain ⟨x', l', r', a', hn⟩ := h.nodes b hb
    exact ⟨_, _, _, _, nt3 _ _ hn⟩
  · obtain ⟨cs, h1⟩ := h.ch1
    exact ⟨cs, hk2 _ _ (.inl rfl) h1⟩
  · obtain ⟨cs, h1⟩ := h.ch2
    exact ⟨cs, hk2 _ _ (.inr rfl) h1⟩
  · obtain ⟨e1, e2⟩ := range_snoc e
    obtain ⟨Us, g1, g2, g3⟩ := h.good e1
    subst e2
    rw [List.length_append, List.length_singleton, show 2 * (pre.length + 1) = 2 * pre.length + 2 by omega]
    obtain ⟨l', q1, q3, q5, q4⟩ := drop_one hx
    rw [hl] at q1
    cases q1
    rw [q3] at g3
    rw [q4, q5]
    refine ⟨Us ++ [l], by simp [heads, g1], g2.snoc1 (by rw [List.length_take]; omega) _, ?_⟩
    rw [List.append_nil]
    exact g3.keep fun b cs _ hc => nt3 _ _ hc
  · have ne_cells : ∀ {j : Nat} {cs : Array Value} {t : TypeId}, W.heap[j]? = some (.cells cs t (0, 0)) → k ≠ j := fun h1 e => by
      subst e
      rw [h1] at ho
      cases ho
      cases hc
    refine keep3 k o ho (ne_cells h.box) fun a e e' => ?_
    obtain ⟨cur, h4⟩ := hAW a e
    exact ne_cells h4 e'.symm
end
end Go.Proofs.YthhmhcmlbpdlbaaGreat.C10R
namespace Go.Proofs.YthhmhcmlbpdlbaaGreat.C10L
open Go.RowKit Mem MemS M10 M10T C01 Rep RepA RW C10T C10V C10J C10R RR
attribute [local go_sem] Oper.semAt_some
set_option linter.unusedVariables false
set_option maxRecDepth 100000
theorem nos_app {n : Nat} (pre : List (PC n)) (x : PC n) : nos (pre ++ [x]) = nos pre ++ [x.1] := by simp [nos]
theorem ichunk_stops (m s g n c : Nat) (hn : n ≤ 1099511627776) (hc : n ≤ c) (w : World) (hs : s + 1 < w.heap.size) (h1 : w.heap[s]? = some (.cells #[.slice (some ⟨g, 0, none⟩) n c] SPT (0, 0))) (h2 : w.heap[s + 1]? = some (.cells #[.int .i64 2] 3 (0, 0))) :
    SeqStopsK Fence.wide m Tryz.prog CHK1 #[.pointer (some ⟨s, 0, none⟩), .pointer (some ⟨s + 1, 0, none⟩)] (fun j : PC n => #[piece g n j.1]) (K2 s) (fun ys => nos ys = List.range ((n + 1) / 2)) (fun _ => True) ((n + 1) / 2) w := fun l J Jx W hW hJ hJx hY h0 =>
  ichunk1_in m l s g n c hn hc J Jx (fun pre W h => hJ pre W W.drew none h ⟨rfl, rfl, rfl, Nat.le_refl _, fun _ _ _ => rfl⟩ (fun r e => by cases e)) hY W ((hW.block s (by omega)).trans h1) ((hW.block (s + 1) (by omega)).trans h2) h0
theorem K2.t {s : Nat} {A B C : World} (h : K2 s A B) (k : K2 s B C) : K2 s A C := h.trans k
theorem K2.b {s : Nat} {w : World} (hs : s + 1 < w.heap.size) (W : World) (l : Nat) (o o' : Obj) (hl : w.heap.size ≤ l) (h : W.heap[l]? = some o) (_ : o.isCells = false) (_ : o.isWalk = false) : K2 s W (W.putObj l o') :=
  fun k u hk hu => (World.putObj_heap_other (by omega)).trans hu
theorem box_joined {w W W1 : World} {Ts : List T} {s B c : Nat} {pre : List Nat} {A : Option Addr} {bs : List Nat} {p q : Nat} (h : St w Ts s B pre W A c bs) (hp : p ∈ heads Ts) (hq : q ∈ heads Ts) (hJ : Joined W W1 p q) :
    Boxed W1 B SPT (.slice A bs.length c) ∧ RowR RP (W1.alloc (.cells #[.pointer (some ⟨W.heap.size, 0, none⟩)] PT)) A bs.length c (raws bs) := by
  obtain ⟨xl, ll, rl, al, nl⟩ := h.nodes _ hp
  obtain ⟨xm, lm, rm, am, nm⟩ := h.nodes _ hq
  have ne_nd : ∀ {k : Nat} {cs : Array Value} {t : TypeId} {x' : Int} {l' r' a' : Option Nat} {b : Nat}, W.heap[k]? = some (.cells cs t (0, 0)) → t ≠ NT → Nd W b x' l' r' a' → k ≠ b := fun h1 h2 h3 e => by
    subst e
    exact h2 (nt_ne h3 h1)
  have r1 : Row W1 A bs.length c bs := h.row.keep fun a cur e h1 => (hJ.block _ (Array.getElem?_eq_some_iff.1 h1).1 (ne_nd h1 (by decide) nl) (ne_nd h1 (by decide) nm)).trans h1
  exact ⟨(hJ.block B h.box.lt (ne_nd h.box (by decide) nl) (ne_nd h.box (by decide) nm)).trans h.box, r1.1, r1.2, r1.row.alloc _⟩
theorem heads_ne {w : World} {Ts : List T} (h : Lvl w Ts) {i : Nat} {l m : T} (hl : Ts[i]? = some l) (hm : Ts[i + 1]? = some m) : l.b ≠ m.b := by
  have hlt := (List.getElem?_eq_some_iff.1 hm).1
  obtain ⟨l', m', q1, q2, q3, q4⟩ := drop_two hlt
  rw [hl] at q1
  rw [hm] at q2
  cases q1
  cases q2
  have e : Ts = Ts.take i ++ l :: m :: Ts.drop (i + 2) := by rw [← q3, List.take_append_drop]
  have hn := h.nd
  rw [e, alls_app] at hn
  have h2 := (List.nodup_append.1 hn).2.1
  have e2 : alls (l :: m :: Ts.drop (i + 2)) = l.bs ++ (m.bs ++ alls (Ts.drop (i + 2))) := by simp [alls]
  rw [e2] at h2
  exact (List.nodup_append.1 h2).2.2 l.b l.b_mem m.b (List.mem_append_left _ m.b_mem)
set_option maxHeartbeats 4000000 in
theorem ilevelAbove_any (A0 : Option Addr) (n c : Nat) (Ts : List T) (w : World) (hr : Row w A0 n c (heads Ts)) (hl : Lvl w Ts) (h1 : 1 < n) (hn : n ≤ 68719476735) :
    Calls Tryz.prog 147 #[.slice A0 n c] w fun e w' => ∃ A c' Us, e = .returned (.slice A Us.length c') ∧ Row w' A Us.length c' (heads Us) ∧ (∀ a, A = some a → w.heap.size ≤ a.block) ∧ (∀ b, b ∈ heads Us → b ∈ heads Ts ∨ w.heap.size ≤ b) ∧ Up Ts Us ∧ Lvl w' Us ∧ Mv (· ∈ heads Ts) w w' := by
  obtain ⟨g, rfl, hnc, ⟨cur, hg⟩, hget⟩ := hr.get (by omega)
  have hlen : Ts.length = n := by rw [← heads_len]; exact hr.len
  have HG := Lib.hid hg
  have HGET := Lib.hid hget
  have HL := Lib.hid hl
  have HW := Lib.hid (show ∀ b, b ∈ heads Ts → b < w.heap.size from fun b hb => by
    obtain ⟨t, ht, rfl⟩ := List.mem_map.1 hb
    exact (hl.is t ht).lt _ t.b_mem)
  have HLEN := Lib.hid hlen
  clear hg hget hl hr hlen
  have hq : Int.tdiv (n : Int) 2 = ((n / 2 : Nat) : Int) := (Int.ofNat_tdiv n 2).symm
  obtain ⟨hu, hk, i, z, i1, i2, i3, i4, i5⟩ := tiP
  change Tryz.prog.underlying SPT = some (.slice PT) at hu
  change Tryz.prog.info? PT = some i at i1
  change i.size = 1 at i4
  refine (callsIn_wide (n := 5)).1 ?_
  refine callsIn_of_wp_marks Tryz.func147 rfl trivial ?_ rfl
  simp only [Tryz.ntmps147, List.size_toArray, List.length_cons, List.length_nil, Nat.reduceAdd, Nat.reduceSub, Array.replicate_succ, Array.replicate_zero, List.push_toArray, List.append_toArray, List.nil_append, List.cons_append]
  gi_wp2_with (first
    | (gi_at_make; refine wpListIn_make_own _ rfl _ _ SPT rfl 0 PT i z 1 hu i1 i2 i4 .i64 .i64 _ (n / 2 + 1) rfl rfl (by omega) (by have := Nat.mul_le_mul_right (n / 2 + 1) i5; omega) (by simp only [maxLen]; omega) (by omega) ?_; intro w1 hown1 hgr1; have HO1 := Lib.hid hown1; have HB1 := Lib.hid ((Below.refl w.heap.size w).grown hgr1 (Nat.le_refl _) (by simp)); clear hown1 hgr1)
    | (refine ⟨trivial, ?_⟩; gi_at_call 161; refine (callsIn_wide.2 (ichunk_any _ _ _ _)).mono ?_; rintro e w2 ⟨rfl, rfl⟩))
  have hs1 := HB1.out.size
  obtain ⟨B, hB⟩ : ∃ B, B = w1.heap.size := ⟨_, rfl⟩
  have bO := Boxed.new w1 SPT (.slice (some ⟨w.heap.size, 0, none⟩) 0 (n / 2 + 1))
  have bS := Boxed.new (w1.alloc (.cells #[.slice (some ⟨w.heap.size, 0, none⟩) 0 (n / 2 + 1)] SPT)) SPT (.slice (some ⟨g, 0, none⟩) n c)
  have bI := Boxed.new ((w1.alloc (.cells #[.slice (some ⟨w.heap.size, 0, none⟩) 0 (n / 2 + 1)] SPT)).alloc (.cells #[.slice (some ⟨g, 0, none⟩) n c] SPT)) 3 (.int .i64 2)
  have hB0 : Below w.heap.size w (((w1.alloc (.cells #[.slice (some ⟨w.heap.size, 0, none⟩) 0 (n / 2 + 1)] SPT)).alloc (.cells #[.slice (some ⟨g, 0, none⟩) n c] SPT)).alloc (.cells #[.int .i64 2] 3)) := ((HB1.out.alloc hs1 _).alloc (by simp; omega) _).alloc (by simp; omega) _
  have hR0 : Row (((w1.alloc (.cells #[.slice (some ⟨w.heap.size, 0, none⟩) 0 (n / 2 + 1)] SPT)).alloc (.cells #[.slice (some ⟨g, 0, none⟩) n c] SPT)).alloc (.cells #[.int .i64 2] 3)) (some ⟨w.heap.size, 0, none⟩) 0 (n / 2 + 1) [] := ⟨rfl, by simp [raws], ((HO1.out.alloc _).alloc _).alloc _⟩
  rw [World.size_alloc, World.size_alloc, ← hB] at bI
  rw [World.size_alloc, ← hB] at bS
  rw [← hB] at bO
  replace bO := (bO.alloc (.cells #[.slice (some ⟨g, 0, none⟩) n c] SPT)).alloc (.cells #[.int .i64 2] 3)
  replace bS := bS.alloc (.cells #[.int .i64 2] 3)
  have hsz : (((w1.alloc (.cells #[.slice (some ⟨w.heap.size, 0, none⟩) 0 (n / 2 + 1)] SPT)).alloc (.cells #[.slice (some ⟨g, 0, none⟩) n c] SPT)).alloc (.cells #[.int .i64 2] 3)).heap.size = B + 3 := by simp [hB]
  have HNODES := Lib.hid (show ∀ b, b ∈ heads Ts → ∃ x l r a, Nd w b x l r a from fun b hb => by
    obtain ⟨t, ht, rfl⟩ := List.mem_map.1 hb
    obtain ⟨x, l, r, h⟩ := (HL.out.is t ht).root.1
    exact ⟨x, l, r, none, h⟩)
  have HGW := Lib.hid (show ∀ W, Mv (· ∈ heads Ts) w W → W.heap[g]? = w.heap[g]? from fun W hm => hm.block g (Array.getElem?_eq_some_iff.1 HG.out).1 fun hb => by
    obtain ⟨cs, h⟩ := head_nd HL.out hb
    exact absurd (nt_ne h HG.out) (by decide))
  have hBw : w.heap.size ≤ B := by omega
  have HST := Lib.hid (show St w Ts (B + 1) B [] (((w1.alloc (.cells #[.slice (some ⟨w.heap.size, 0, none⟩) 0 (n / 2 + 1)] SPT)).alloc (.cells #[.slice (some ⟨g, 0, none⟩) n c] SPT)).alloc (.cells #[.int .i64 2] 3)) (some ⟨w.heap.size, 0, none⟩) (n / 2 + 1) [] from
    ⟨rfl, bO, hR0, fun a e => by injection e with e; subst e; exact Nat.le_refl _, by simp, Mv.of_below hB0,
     fun b hb => (HNODES.out b hb).imp fun x h => h.imp fun l h => h.imp fun r h => h.imp fun a h => (hB0.block b (Nd.lt (w := w) (b := b) (x := x) (l := l) (r := r) (a := a) h)).trans h,
     ⟨_, bS⟩, ⟨_, bI⟩, fun _ => ⟨[], rfl, .nil, HL.out.keep (Kp.below hB0 _)⟩⟩)
  have HSTOP := Lib.hid (ichunk_stops 4 (B + 1) g n c (by omega) hnc _ (by omega) bS bI)
  clear hB0 hR0 bO bS bI HO1 HB1
  rw [← hB]
  clear hB
  revert HST HSTOP hsz
  generalize (((w1.alloc (.cells #[.slice (some ⟨w.heap.size, 0, none⟩) 0 (n / 2 + 1)] SPT)).alloc (.cells #[.slice (some ⟨g, 0, none⟩) n c] SPT)).alloc (.cells #[.int .i64 2] 3)) = w3
  intro hsz HST HSTOP
  refine wpIn_rangeFunc_ownG rfl (by omega) (gf := 178) (lb := #[.pointer (some ⟨B + 1, 0, none⟩), .pointer (some ⟨B + 1 + 1, 0, none⟩)]) rfl trivial (enters_of Tryz.func178 (by kernel_rfl) rfl)
    HSTOP.out K2.t (K2.b (by omega)) (Below.refl _ _) (fun _ => rfl)
    (fun pre W => ∃ A c2 bs, St w Ts (B + 1) B (nos pre) W A c2 bs) (fun _ _ _ => False) ?own (fun _ _ _ _ _ hs _ _ => hs) ⟨_, _, _, HST.out⟩
    (fun x => { tmps := #[.slice (some ⟨g, 0, none⟩) n c, undef, .slice none 0 0, .pointer (some ⟨B, 0, none⟩), piece g n x.1, .slice (some ⟨g, 0, none⟩) n c, .int .i64 n, .int .i64 ((n : Int) / 2), .int .i64 ((n : Int) / 2 + 1), .slice (some ⟨w.heap.size, 0, none⟩) 0 (n / 2 + 1), .slice (some ⟨g, 0, none⟩) n c, .func (.func CHK1) #[] #[.pointer (some ⟨B + 1, 0, none⟩), .pointer (some ⟨B + 1 + 1, 0, none⟩)], piece g n x.1, undef, undef, undef, undef, undef, undef, undef, undef, undef, undef, undef, undef, undef, undef, undef, undef, undef, undef, undef, undef], defers := [] }) ?assign ?body ?done ?stop
  case own =>
    rintro pre X Y row ⟨A, c2, bs, h⟩ hg hr
    exact ⟨A, c2, bs, h.tame (Tame.grown hg (fun r e => ⟨by have := (hr r e).1; omega, (hr r e).2⟩) h.mv.size)⟩
  case assign =>
    intro l x W K hK
    gi_wp2
    exact hK
  case body =>
    rintro l pre ⟨x, hx⟩ W ⟨A, c2, bs, hst⟩ hlen
    have hbl : bs.length < (n + 1) / 2 := by
      have := hst.len
      simp only [nos, List.length_map] at this
      omega
    have hgw := (HGW.out W hst.mv).trans HG.out
    have hbox := hst.box
    rcases Nat.lt_or_ge (2 * x + 1) n with h2n | h2n
    · dsimp only
      rw [piece_two h2n]
      obtain ⟨tl, htl⟩ : ∃ t, Ts[2 * x]? = some t := ⟨_, List.getElem?_eq_getElem (by rw [HLEN.out]; omega)⟩
      obtain ⟨tm, htm⟩ : ∃ t, Ts[2 * x + 1]? = some t := ⟨_, List.getElem?_eq_getElem (by rw [HLEN.out]; omega)⟩
      have hne := heads_ne HL.out htl htm
      have hlh := in_heads htl
      have hmh := in_heads htm
      obtain ⟨xl, ll, rl, al, nl⟩ := hst.nodes _ hlh
      obtain ⟨xm, lm, rm, am, nm⟩ := hst.nodes _ hmh
      have HJ := Lib.hid (ijoin_any tl.b tm.b W.drew nl nm hne)
      have HBX := Lib.hid (fun W1 (hj : Joined W.drew W1 tl.b tm.b) => box_joined hst.drew hlh hmh hj)
      have HRN := Lib.hid (fun W1 A2 c' W2 (hj : Joined W.drew W1 tl.b tm.b) (h2 : RowR RP W2 A2 (bs.length + 1) c' (raws bs ++ [[.pointer (some ⟨W.heap.size, 0, none⟩)]])) (hg : Gr A (W1.alloc (.cells #[.pointer (some ⟨W.heap.size, 0, none⟩)] PT)) A2 W2) => round_two (N := w3.heap.size) hst.drew HW.out hBw (Nat.lt_succ_self B) htl htm hj h2 hg)
      have d0 : W.cell? ⟨g, 2 * x, none⟩ = some (.pointer (some ⟨tl.b, 0, none⟩)) := (World.cell?_of_block (a := ⟨g, 2 * x, none⟩) (HGW.out W hst.mv)).trans (HGET.out (2 * x) tl.b (by unfold heads; rw [List.getElem?_map, htl]; rfl))
      have d1 : W.cell? ⟨g, 2 * x + 1, none⟩ = some (.pointer (some ⟨tm.b, 0, none⟩)) := (World.cell?_of_block (a := ⟨g, 2 * x + 1, none⟩) (HGW.out W hst.mv)).trans (HGET.out (2 * x + 1) tm.b (by unfold heads; rw [List.getElem?_map, htm]; rfl))
      have e0 : W.drew.cell? ⟨g, 2 * x, none⟩ = some (.pointer (some ⟨tl.b, 0, none⟩)) := d0
      have e1 : W.drew.cell? ⟨g, 2 * x + 1, none⟩ = some (.pointer (some ⟨tm.b, 0, none⟩)) := d1
      have eb : W.drew.cell? ⟨B, 0, none⟩ = some (.slice A bs.length c2) := hbox.cell
      clear d0 d1 nl nm hne hlh hmh htl htm hst hbox hgw
      generalize tl.b = lb at *
      generalize tm.b = mb at *
      gi_wp2
      refine region_round (by kernel_rfl) (by kernel_rfl) (fun _ _ h => h) ?_
      refine wpAny_take (i := 1) (v := .slice (some ⟨g, 2 * x, none⟩) 2 2) rfl (by kernel_rfl) (by kernel_rfl) (by kernel_rfl) (fun _ _ _ h => h) (Or.inl ⟨by rfl, fun w => ?_⟩) ?_
      · go_simp
      refine wpAny_take (i := 2) (v := .pointer (some ⟨g, 2 * x, none⟩)) rfl (by kernel_rfl) (by kernel_rfl) (by kernel_rfl) (fun _ _ _ h => h) (Or.inl ⟨by rfl, fun w => ?_⟩) ?_
      · go_simp
      refine wpAny_take (i := 4) (v := .slice (some ⟨g, 2 * x, none⟩) 2 2) rfl (by kernel_rfl) (by kernel_rfl) (by kernel_rfl) (fun _ _ _ h => h) (Or.inl ⟨by rfl, fun w => ?_⟩) ?_
      · go_simp
      refine wpAny_take (i := 5) (v := .pointer (some ⟨g, 2 * x + 1, none⟩)) rfl (by kernel_rfl) (by kernel_rfl) (by kernel_rfl) (fun _ _ _ h => h) (Or.inl ⟨by rfl, fun w => ?_⟩) ?_
      · go_simp
      refine wpAny_ready (rs := [0, 3, 6]) (by kernel_rfl) (by simp) ?_
      refine AllReady.cons rfl (fun K hK => ?_) ?_
      · go_simp
        refine hK _ _ ?_
        clear hK K
        refine wpAny_ready (rs := [3, 6]) (by kernel_rfl) (by simp) ?_
        refine AllReady.cons rfl (fun K hK => ?_) ?_
        · go_simp
          refine hK _ _ ?_
          clear hK K
          refine wpAny_ready (rs := [6]) (by kernel_rfl) (by simp) ?_
          refine AllReady.cons rfl (fun K hK => ?_) ?_
          · go_simp
            refine hK _ _ ?_
            clear hK K
            refine wpAny_ready (rs := [7]) (by kernel_rfl) (by simp) ?_
            refine AllReady.cons rfl (fun K hK => ?_) ?_
            · go_simp
              go_at_call 162
              refine HJ.out.mono ?_
              rintro e W1 ⟨rfl, hj⟩
              have HJ1 := Lib.hid hj
              clear hj
              obtain ⟨hx1, hr1⟩ := HBX.out W1 HJ1.out
              have k1 := hx1.cell
              have k2 := (hx1.alloc (.cells #[.pointer (some ⟨W.heap.size, 0, none⟩)] PT)).cell
              have HR1 := Lib.hid hr1
              clear hx1 hr1
              go_simp
              refine hK _ _ ?_
              clear hK K
              refine wpAny_ready (rs := [8]) (by kernel_rfl) (by simp) ?_
              refine AllReady.cons rfl (fun K hK => ?_) ?_
              · go_simp
                refine hK _ _ ?_
                clear hK K
                refine wpAny_ready (rs := [9]) (by kernel_rfl) (by simp) ?_
                refine AllReady.cons rfl (fun K hK => ?_) ?_
                · refine step_appR tiP rfl (.tmp 22) (.tmp 30) rfl rfl HR1.out rfl (src_new W1 (cs := [.pointer (some ⟨W.heap.size, 0, none⟩)]) rfl (by simp [Value.oneCell']) PT) (by omega) ?_
                  intro A2 c2 W2 hrow2 hgr2
                  obtain ⟨q1, q2, q3, q4⟩ := HRN.out W1 A2 c2 W2 HJ1.out hrow2 hgr2
                  clear hrow2 hgr2
                  have QC := q1.cell
                  have QF := q1.frozen
                  have Q2 := Lib.hid q2
                  have Q3 := Lib.hid q3
                  have Q4 := Lib.hid q4
                  clear q1 q2 q3 q4
                  refine hK _ _ ?_
                  clear hK K
                  refine wpAny_ready (rs := [10]) (by kernel_rfl) (by simp) ?_
                  refine AllReady.cons rfl (fun K hK => ?_) ?_
                  · go_simp
                    refine hK _ _ ?_
                    clear hK K
                    refine wpAny_done (by kernel_rfl) ?_ _
                    gi_wp2
                    exact ⟨⟨Q3.out.size, Q3.out.same⟩, fun k o hk ho => Q4.out k o hk ho, _, _, _, by rw [nos_app]; exact Q2.out⟩
                  exact AllReady.nil
                exact AllReady.nil
              exact AllReady.nil
            exact AllReady.nil
          exact AllReady.nil
        refine AllReady.cons rfl (fun K hK => ?_) ?_
        · go_simp
          refine hK _ _ ?_
          clear hK K
          refine wpAny_ready (rs := [3]) (by kernel_rfl) (by simp) ?_
          refine AllReady.cons rfl (fun K hK => ?_) ?_
          · go_simp
            refine hK _ _ ?_
            clear hK K
            refine wpAny_ready (rs := [7]) (by kernel_rfl) (by simp) ?_
            refine AllReady.cons rfl (fun K hK => ?_) ?_
            · go_simp
              go_at_call 162
              refine HJ.out.mono ?_
              rintro e W1 ⟨rfl, hj⟩
              have HJ1 := Lib.hid hj
              clear hj
              obtain ⟨hx1, hr1⟩ := HBX.out W1 HJ1.out
              have k1 := hx1.cell
              have k2 := (hx1.alloc (.cells #[.pointer (some ⟨W.heap.size, 0, none⟩)] PT)).cell
              have HR1 := Lib.hid hr1
              clear hx1 hr1
              go_simp
              refine hK _ _ ?_
              clear hK K
              refine wpAny_ready (rs := [8]) (by kernel_rfl) (by simp) ?_
              refine AllReady.cons rfl (fun K hK => ?_) ?_
              · go_simp
                refine hK _ _ ?_
                clear hK K
                refine wpAny_ready (rs := [9]) (by kernel_rfl) (by simp) ?_
                refine AllReady.cons rfl (fun K hK => ?_) ?_
                · refine step_appR tiP rfl (.tmp 22) (.tmp 30) rfl rfl HR1.out rfl (src_new W1 (cs := [.pointer (some ⟨W.heap.size, 0, none⟩)]) rfl (by simp [Value.oneCell']) PT) (by omega) ?_
                  intro A2 c2 W2 hrow2 hgr2
                  obtain ⟨q1, q2, q3, q4⟩ := HRN.out W1 A2 c2 W2 HJ1.out hrow2 hgr2
                  clear hrow2 hgr2
                  have QC := q1.cell
                  have QF := q1.frozen
                  have Q2 := Lib.hid q2
                  have Q3 := Lib.hid q3
                  have Q4 := Lib.hid q4
                  clear q1 q2 q3 q4
                  refine hK _ _ ?_
                  clear hK K
                  refine wpAny_ready (rs := [10]) (by kernel_rfl) (by simp) ?_
                  refine AllReady.cons rfl (fun K hK => ?_) ?_
                  · go_simp
                    refine hK _ _ ?_
                    clear hK K
                    refine wpAny_done (by kernel_rfl) ?_ _
                    gi_wp2
                    exact ⟨⟨Q3.out.size, Q3.out.same⟩, fun k o hk ho => Q4.out k o hk ho, _, _, _, by rw [nos_app]; exact Q2.out⟩
                  exact AllReady.nil
                exact AllReady.nil
              exact AllReady.nil
            exact AllReady.nil
          exact AllReady.nil
        exact AllReady.nil
      refine AllReady.cons rfl (fun K hK => ?_) ?_
      · go_simp
        refine hK _ _ ?_
        clear hK K
        refine wpAny_ready (rs := [0, 6]) (by kernel_rfl) (by simp) ?_
        refine AllReady.cons rfl (fun K hK => ?_) ?_
        · go_simp
          refine hK _ _ ?_
          clear hK K
          refine wpAny_ready (rs := [6]) (by kernel_rfl) (by simp) ?_
          refine AllReady.cons rfl (fun K hK => ?_) ?_
          · go_simp
            refine hK _ _ ?_
            clear hK K
            refine wpAny_ready (rs := [7]) (by kernel_rfl) (by simp) ?_
            refine AllReady.cons rfl (fun K hK => ?_) ?_
            · go_simp
              go_at_call 162
              refine HJ.out.mono ?_
              rintro e W1 ⟨rfl, hj⟩
              have HJ1 := Lib.hid hj
              clear hj
              obtain ⟨hx1, hr1⟩ := HBX.out W1 HJ1.out
              have k1 := hx1.cell
              have k2 := (hx1.alloc (.cells #[.pointer (some ⟨W.heap.size, 0, none⟩)] PT)).cell
              have HR1 := Lib.hid hr1
              clear hx1 hr1
              go_simp
              refine hK _ _ ?_
              clear hK K
              refine wpAny_ready (rs := [8]) (by kernel_rfl) (by simp) ?_
              refine AllReady.cons rfl (fun K hK => ?_) ?_
              · go_simp
                refine hK _ _ ?_
                clear hK K
                refine wpAny_ready (rs := [9]) (by kernel_rfl) (by simp) ?_
                refine AllReady.cons rfl (fun K hK => ?_) ?_
                · refine step_appR tiP rfl (.tmp 22) (.tmp 30) rfl rfl HR1.out rfl (src_new W1 (cs := [.pointer (some ⟨W.heap.size, 0, none⟩)]) rfl (by simp [Value.oneCell']) PT) (by omega) ?_
                  intro A2 c2 W2 hrow2 hgr2
                  obtain ⟨q1, q2, q3, q4⟩ := HRN.out W1 A2 c2 W2 HJ1.out hrow2 hgr2
                  clear hrow2 hgr2
                  have QC := q1.cell
                  have QF := q1.frozen
                  have Q2 := Lib.hid q2
                  have Q3 := Lib.hid q3
                  have Q4 := Lib.hid q4
                  clear q1 q2 q3 q4
                  refine hK _ _ ?_
                  clear hK K
                  refine wpAny_ready (rs := [10]) (by kernel_rfl) (by simp) ?_
                  refine AllReady.cons rfl (fun K hK => ?_) ?_
                  · go_simp
                    refine hK _ _ ?_
                    clear hK K
                    refine wpAny_done (by kernel_rfl) ?_ _
                    gi_wp2
                    exact ⟨⟨Q3.out.size, Q3.out.same⟩, fun k o hk ho => Q4.out k o hk ho, _, _, _, by rw [nos_app]; exact Q2.out⟩
                  exact AllReady.nil
                exact AllReady.nil
              exact AllReady.nil
            exact AllReady.nil
          exact AllReady.nil
        refine AllReady.cons rfl (fun K hK => ?_) ?_
        · go_simp
          refine hK _ _ ?_
          clear hK K
          refine wpAny_ready (rs := [0, 7]) (by kernel_rfl) (by simp) ?_
          refine AllReady.cons rfl (fun K hK => ?_) ?_
          · go_simp
            refine hK _ _ ?_
            clear hK K
            refine wpAny_ready (rs := [7]) (by kernel_rfl) (by simp) ?_
            refine AllReady.cons rfl (fun K hK => ?_) ?_
            · go_simp
              go_at_call 162
              refine HJ.out.mono ?_
              rintro e W1 ⟨rfl, hj⟩
              have HJ1 := Lib.hid hj
              clear hj
              obtain ⟨hx1, hr1⟩ := HBX.out W1 HJ1.out
              have k1 := hx1.cell
              have k2 := (hx1.alloc (.cells #[.pointer (some ⟨W.heap.size, 0, none⟩)] PT)).cell
              have HR1 := Lib.hid hr1
              clear hx1 hr1
              go_simp
              refine hK _ _ ?_
              clear hK K
              refine wpAny_ready (rs := [8]) (by kernel_rfl) (by simp) ?_
              refine AllReady.cons rfl (fun K hK => ?_) ?_
              · go_simp
                refine hK _ _ ?_
                clear hK K
                refine wpAny_ready (rs := [9]) (by kernel_rfl) (by simp) ?_
                refine AllReady.cons rfl (fun K hK => ?_) ?_
                · refine step_appR tiP rfl (.tmp 22) (.tmp 30) rfl rfl HR1.out rfl (src_new W1 (cs := [.pointer (some ⟨W.heap.size, 0, none⟩)]) rfl (by simp [Value.oneCell']) PT) (by omega) ?_
                  intro A2 c2 W2 hrow2 hgr2
                  obtain ⟨q1, q2, q3, q4⟩ := HRN.out W1 A2 c2 W2 HJ1.out hrow2 hgr2
                  clear hrow2 hgr2
                  have QC := q1.cell
                  have QF := q1.frozen
                  have Q2 := Lib.hid q2
                  have Q3 := Lib.hid q3
                  have Q4 := Lib.hid q4
                  clear q1 q2 q3 q4
                  refine hK _ _ ?_
                  clear hK K
                  refine wpAny_ready (rs := [10]) (by kernel_rfl) (by simp) ?_
                  refine AllReady.cons rfl (fun K hK => ?_) ?_
                  · go_simp
                    refine hK _ _ ?_
                    clear hK K
                    refine wpAny_done (by kernel_rfl) ?_ _
                    gi_wp2
                    exact ⟨⟨Q3.out.size, Q3.out.same⟩, fun k o hk ho => Q4.out k o hk ho, _, _, _, by rw [nos_app]; exact Q2.out⟩
                  exact AllReady.nil
                exact AllReady.nil
              exact AllReady.nil
            exact AllReady.nil
          refine AllReady.cons rfl (fun K hK => ?_) ?_
          · go_simp
            go_at_call 162
            refine HJ.out.mono ?_
            rintro e W1 ⟨rfl, hj⟩
            have HJ1 := Lib.hid hj
            clear hj
            obtain ⟨hx1, hr1⟩ := HBX.out W1 HJ1.out
            have k1 := hx1.cell
            have k2 := (hx1.alloc (.cells #[.pointer (some ⟨W.heap.size, 0, none⟩)] PT)).cell
            have HR1 := Lib.hid hr1
            clear hx1 hr1
            go_simp
            refine hK _ _ ?_
            clear hK K
            refine wpAny_ready (rs := [0, 8]) (by kernel_rfl) (by simp) ?_
            refine AllReady.cons rfl (fun K hK => ?_) ?_
            · go_simp
              refine hK _ _ ?_
              clear hK K
              refine wpAny_ready (rs := [8]) (by kernel_rfl) (by simp) ?_
              refine AllReady.cons rfl (fun K hK => ?_) ?_
              · go_simp
                refine hK _ _ ?_
                clear hK K
                refine wpAny_ready (rs := [9]) (by kernel_rfl) (by simp) ?_
                refine AllReady.cons rfl (fun K hK => ?_) ?_
                · refine step_appR tiP rfl (.tmp 22) (.tmp 30) rfl rfl HR1.out rfl (src_new W1 (cs := [.pointer (some ⟨W.heap.size, 0, none⟩)]) rfl (by simp [Value.oneCell']) PT) (by omega) ?_
                  intro A2 c2 W2 hrow2 hgr2
                  obtain ⟨q1, q2, q3, q4⟩ := HRN.out W1 A2 c2 W2 HJ1.out hrow2 hgr2
                  clear hrow2 hgr2
                  have QC := q1.cell
                  have QF := q1.frozen
                  have Q2 := Lib.hid q2
                  have Q3 := Lib.hid q3
                  have Q4 := Lib.hid q4
                  clear q1 q2 q3 q4
                  refine hK _ _ ?_
                  clear hK K
                  refine wpAny_ready (rs := [10]) (by kernel_rfl) (by simp) ?_
                  refine AllReady.cons rfl (fun K hK => ?_) ?_
                  · go_simp
                    refine hK _ _ ?_
                    clear hK K
                    refine wpAny_done (by kernel_rfl) ?_ _
                    gi_wp2
                    exact ⟨⟨Q3.out.size, Q3.out.same⟩, fun k o hk ho => Q4.out k o hk ho, _, _, _, by rw [nos_app]; exact Q2.out⟩
                  exact AllReady.nil
                exact AllReady.nil
              exact AllReady.nil
            refine AllReady.cons rfl (fun K hK => ?_) ?_
            · go_simp
              refine hK _ _ ?_
              clear hK K
              refine wpAny_ready (rs := [0]) (by kernel_rfl) (by simp) ?_
              refine AllReady.cons rfl (fun K hK => ?_) ?_
              · go_simp
                refine hK _ _ ?_
                clear hK K
                refine wpAny_ready (rs := [9]) (by kernel_rfl) (by simp) ?_
                refine AllReady.cons rfl (fun K hK => ?_) ?_
                · refine step_appR tiP rfl (.tmp 22) (.tmp 30) rfl rfl HR1.out rfl (src_new W1 (cs := [.pointer (some ⟨W.heap.size, 0, none⟩)]) rfl (by simp [Value.oneCell']) PT) (by omega) ?_
                  intro A2 c2 W2 hrow2 hgr2
                  obtain ⟨q1, q2, q3, q4⟩ := HRN.out W1 A2 c2 W2 HJ1.out hrow2 hgr2
                  clear hrow2 hgr2
                  have QC := q1.cell
                  have QF := q1.frozen
                  have Q2 := Lib.hid q2
                  have Q3 := Lib.hid q3
                  have Q4 := Lib.hid q4
                  clear q1 q2 q3 q4
                  refine hK _ _ ?_
                  clear hK K
                  refine wpAny_ready (rs := [10]) (by kernel_rfl) (by simp) ?_
                  refine AllReady.cons rfl (fun K hK => ?_) ?_
                  · go_simp
                    refine hK _ _ ?_
                    clear hK K
                    refine wpAny_done (by kernel_rfl) ?_ _
                    gi_wp2
                    exact ⟨⟨Q3.out.size, Q3.out.same⟩, fun k o hk ho => Q4.out k o hk ho, _, _, _, by rw [nos_app]; exact Q2.out⟩
                  exact AllReady.nil
                exact AllReady.nil
              exact AllReady.nil
            exact AllReady.nil
          exact AllReady.nil
        exact AllReady.nil
      refine AllReady.cons rfl (fun K hK => ?_) ?_
      · go_simp
        refine hK _ _ ?_
        clear hK K
        refine wpAny_ready (rs := [0, 3]) (by kernel_rfl) (by simp) ?_
        refine AllReady.cons rfl (fun K hK => ?_) ?_
        · go_simp
          refine hK _ _ ?_
          clear hK K
          refine wpAny_ready (rs := [3]) (by kernel_rfl) (by simp) ?_
          refine AllReady.cons rfl (fun K hK => ?_) ?_
          · go_simp
            refine hK _ _ ?_
            clear hK K
            refine wpAny_ready (rs := [7]) (by kernel_rfl) (by simp) ?_
            refine AllReady.cons rfl (fun K hK => ?_) ?_
            · go_simp
              go_at_call 162
              refine HJ.out.mono ?_
              rintro e W1 ⟨rfl, hj⟩
              have HJ1 := Lib.hid hj
              clear hj
              obtain ⟨hx1, hr1⟩ := HBX.out W1 HJ1.out
              have k1 := hx1.cell
              have k2 := (hx1.alloc (.cells #[.pointer (some ⟨W.heap.size, 0, none⟩)] PT)).cell
              have HR1 := Lib.hid hr1
              clear hx1 hr1
              go_simp
              refine hK _ _ ?_
              clear hK K
              refine wpAny_ready (rs := [8]) (by kernel_rfl) (by simp) ?_
              refine AllReady.cons rfl (fun K hK => ?_) ?_
              · go_simp
                refine hK _ _ ?_
                clear hK K
                refine wpAny_ready (rs := [9]) (by kernel_rfl) (by simp) ?_
                refine AllReady.cons rfl (fun K hK => ?_) ?_
                · refine step_appR tiP rfl (.tmp 22) (.tmp 30) rfl rfl HR1.out rfl (src_new W1 (cs := [.pointer (some ⟨W.heap.size, 0, none⟩)]) rfl (by simp [Value.oneCell']) PT) (by omega) ?_
                  intro A2 c2 W2 hrow2 hgr2
                  obtain ⟨q1, q2, q3, q4⟩ := HRN.out W1 A2 c2 W2 HJ1.out hrow2 hgr2
                  clear hrow2 hgr2
                  have QC := q1.cell
                  have QF := q1.frozen
                  have Q2 := Lib.hid q2
                  have Q3 := Lib.hid q3
                  have Q4 := Lib.hid q4
                  clear q1 q2 q3 q4
                  refine hK _ _ ?_
                  clear hK K
                  refine wpAny_ready (rs := [10]) (by kernel_rfl) (by simp) ?_
                  refine AllReady.cons rfl (fun K hK => ?_) ?_
                  · go_simp
                    refine hK _ _ ?_
                    clear hK K
                    refine wpAny_done (by kernel_rfl) ?_ _
                    gi_wp2
                    exact ⟨⟨Q3.out.size, Q3.out.same⟩, fun k o hk ho => Q4.out k o hk ho, _, _, _, by rw [nos_app]; exact Q2.out⟩
                  exact AllReady.nil
                exact AllReady.nil
              exact AllReady.nil
            exact AllReady.nil
          exact AllReady.nil
        refine AllReady.cons rfl (fun K hK => ?_) ?_
        · go_simp
          refine hK _ _ ?_
          clear hK K
          refine wpAny_ready (rs := [0, 7]) (by kernel_rfl) (by simp) ?_
          refine AllReady.cons rfl (fun K hK => ?_) ?_
          · go_simp
            refine hK _ _ ?_
            clear hK K
            refine wpAny_ready (rs := [7]) (by kernel_rfl) (by simp) ?_
            refine AllReady.cons rfl (fun K hK => ?_) ?_
            · go_simp
              go_at_call 162
              refine HJ.out.mono ?_
              rintro e W1 ⟨rfl, hj⟩
              have HJ1 := Lib.hid hj
              clear hj
              obtain ⟨hx1, hr1⟩ := HBX.out W1 HJ1.out
              have k1 := hx1.cell
              have k2 := (hx1.alloc (.cells #[.pointer (some ⟨W.heap.size, 0, none⟩)] PT)).cell
              have HR1 := Lib.hid hr1
              clear hx1 hr1
              go_simp
              refine hK _ _ ?_
              clear hK K
              refine wpAny_ready (rs := [8]) (by kernel_rfl) (by simp) ?_
              refine AllReady.cons rfl (fun K hK => ?_) ?_
              · go_simp
                refine hK _ _ ?_
                clear hK K
                refine wpAny_ready (rs := [9]) (by kernel_rfl) (by simp) ?_
                refine AllReady.cons rfl (fun K hK => ?_) ?_
                · refine step_appR tiP rfl (.tmp 22) (.tmp 30) rfl rfl HR1.out rfl (src_new W1 (cs := [.pointer (some ⟨W.heap.size, 0, none⟩)]) rfl (by simp [Value.oneCell']) PT) (by omega) ?_
                  intro A2 c2 W2 hrow2 hgr2
                  obtain ⟨q1, q2, q3, q4⟩ := HRN.out W1 A2 c2 W2 HJ1.out hrow2 hgr2
                  clear hrow2 hgr2
                  have QC := q1.cell
                  have QF := q1.frozen
                  have Q2 := Lib.hid q2
                  have Q3 := Lib.hid q3
                  have Q4 := Lib.hid q4
                  clear q1 q2 q3 q4
                  refine hK _ _ ?_
                  clear hK K
                  refine wpAny_ready (rs := [10]) (by kernel_rfl) (by simp) ?_
                  refine AllReady.cons rfl (fun K hK => ?_) ?_
                  · go_simp
                    refine hK _ _ ?_
                    clear hK K
                    refine wpAny_done (by kernel_rfl) ?_ _
                    gi_wp2
                    exact ⟨⟨Q3.out.size, Q3.out.same⟩, fun k o hk ho => Q4.out k o hk ho, _, _, _, by rw [nos_app]; exact Q2.out⟩
                  exact AllReady.nil
                exact AllReady.nil
              exact AllReady.nil
            exact AllReady.nil
          refine AllReady.cons rfl (fun K hK => ?_) ?_
          · go_simp
            go_at_call 162
            refine HJ.out.mono ?_
            rintro e W1 ⟨rfl, hj⟩
            have HJ1 := Lib.hid hj
            clear hj
            obtain ⟨hx1, hr1⟩ := HBX.out W1 HJ1.out
            have k1 := hx1.cell
            have k2 := (hx1.alloc (.cells #[.pointer (some ⟨W.heap.size, 0, none⟩)] PT)).cell
            have HR1 := Lib.hid hr1
            clear hx1 hr1
            go_simp
            refine hK _ _ ?_
            clear hK K
            refine wpAny_ready (rs := [0, 8]) (by kernel_rfl) (by simp) ?_
            refine AllReady.cons rfl (fun K hK => ?_) ?_
            · go_simp
              refine hK _ _ ?_
              clear hK K
              refine wpAny_ready (rs := [8]) (by kernel_rfl) (by simp) ?_
              refine AllReady.cons rfl (fun K hK => ?_) ?_
              · go_simp
                refine hK _ _ ?_
                clear hK K
                refine wpAny_ready (rs := [9]) (by kernel_rfl) (by simp) ?_
                refine AllReady.cons rfl (fun K hK => ?_) ?_
                · refine step_appR tiP rfl (.tmp 22) (.tmp 30) rfl rfl HR1.out rfl (src_new W1 (cs := [.pointer (some ⟨W.heap.size, 0, none⟩)]) rfl (by simp [Value.oneCell']) PT) (by omega) ?_
                  intro A2 c2 W2 hrow2 hgr2
                  obtain ⟨q1, q2, q3, q4⟩ := HRN.out W1 A2 c2 W2 HJ1.out hrow2 hgr2
                  clear hrow2 hgr2
                  have QC := q1.cell
                  have QF := q1.frozen
                  have Q2 := Lib.hid q2
                  have Q3 := Lib.hid q3
                  have Q4 := Lib.hid q4
                  clear q1 q2 q3 q4
                  refine hK _ _ ?_
                  clear hK K
                  refine wpAny_ready (rs := [10]) (by kernel_rfl) (by simp) ?_
                  refine AllReady.cons rfl (fun K hK => ?_) ?_
                  · go_simp
                    refine hK _ _ ?_
                    clear hK K
                    refine wpAny_done (by kernel_rfl) ?_ _
                    gi_wp2
                    exact ⟨⟨Q3.out.size, Q3.out.same⟩, fun k o hk ho => Q4.out k o hk ho, _, _, _, by rw [nos_app]; exact Q2.out⟩
                  exact AllReady.nil
                exact AllReady.nil
              exact AllReady.nil
            refine AllReady.cons rfl (fun K hK => ?_) ?_
            · go_simp
              refine hK _ _ ?_
              clear hK K
              refine wpAny_ready (rs := [0]) (by kernel_rfl) (by simp) ?_
              refine AllReady.cons rfl (fun K hK => ?_) ?_
              · go_simp
                refine hK _ _ ?_
                clear hK K
                refine wpAny_ready (rs := [9]) (by kernel_rfl) (by simp) ?_
                refine AllReady.cons rfl (fun K hK => ?_) ?_
                · refine step_appR tiP rfl (.tmp 22) (.tmp 30) rfl rfl HR1.out rfl (src_new W1 (cs := [.pointer (some ⟨W.heap.size, 0, none⟩)]) rfl (by simp [Value.oneCell']) PT) (by omega) ?_
                  intro A2 c2 W2 hrow2 hgr2
                  obtain ⟨q1, q2, q3, q4⟩ := HRN.out W1 A2 c2 W2 HJ1.out hrow2 hgr2
                  clear hrow2 hgr2
                  have QC := q1.cell
                  have QF := q1.frozen
                  have Q2 := Lib.hid q2
                  have Q3 := Lib.hid q3
                  have Q4 := Lib.hid q4
                  clear q1 q2 q3 q4
                  refine hK _ _ ?_
                  clear hK K
                  refine wpAny_ready (rs := [10]) (by kernel_rfl) (by simp) ?_
                  refine AllReady.cons rfl (fun K hK => ?_) ?_
                  · go_simp
                    refine hK _ _ ?_
                    clear hK K
                    refine wpAny_done (by kernel_rfl) ?_ _
                    gi_wp2
                    exact ⟨⟨Q3.out.size, Q3.out.same⟩, fun k o hk ho => Q4.out k o hk ho, _, _, _, by rw [nos_app]; exact Q2.out⟩
                  exact AllReady.nil
                exact AllReady.nil
              exact AllReady.nil
            exact AllReady.nil
          exact AllReady.nil
        exact AllReady.nil
      exact AllReady.nil
    · dsimp only
      rw [piece_one (show 2 * x + 1 = n by omega)]
      obtain ⟨tl, htl⟩ : ∃ t, Ts[2 * x]? = some t := ⟨_, List.getElem?_eq_getElem (by rw [HLEN.out]; omega)⟩
      have HRN := Lib.hid (fun A2 c' W2 (h2 : RowR RP W2 A2 (bs.length + 1) c' (raws bs ++ [[.pointer (some ⟨tl.b, 0, none⟩)]])) (hg : Gr A (W.drew.alloc (.cells #[.pointer (some ⟨tl.b, 0, none⟩)] PT)) A2 W2) => round_one (N := w3.heap.size) hst.drew HW.out hBw (Nat.lt_succ_self B) htl (by rw [HLEN.out]; omega) h2 hg)
      have d0 : W.cell? ⟨g, 2 * x, none⟩ = some (.pointer (some ⟨tl.b, 0, none⟩)) := (World.cell?_of_block (a := ⟨g, 2 * x, none⟩) (HGW.out W hst.mv)).trans (HGET.out (2 * x) tl.b (by unfold heads; rw [List.getElem?_map, htl]; rfl))
      have e0 : W.drew.cell? ⟨g, 2 * x, none⟩ = some (.pointer (some ⟨tl.b, 0, none⟩)) := d0
      have eb : W.drew.cell? ⟨B, 0, none⟩ = some (.slice A bs.length c2) := hbox.cell
      have HR1 := Lib.hid (show RowR RP (W.drew.alloc (.cells #[.pointer (some ⟨tl.b, 0, none⟩)] PT)) A bs.length c2 (raws bs) from ⟨hst.row.1, hst.row.2, RowR.row (hst.drew.row) |>.alloc _⟩)
      have ebk := (hst.box.alloc (.cells #[.pointer (some ⟨tl.b, 0, none⟩)] PT)).cell
      clear d0 htl hst hbox hgw
      generalize tl.b = lb at *
      gi_wp2
      refine region_round (by kernel_rfl) (by kernel_rfl) (fun _ _ h => h) ?_
      refine wpAny_take (i := 1) (v := .slice (some ⟨g, 2 * x, none⟩) 1 1) rfl (by kernel_rfl) (by kernel_rfl) (by kernel_rfl) (fun _ _ _ h => h) (Or.inl ⟨by rfl, fun w => ?_⟩) ?_
      · go_simp
      refine wpAny_take (i := 2) (v := .pointer (some ⟨g, 2 * x, none⟩)) rfl (by kernel_rfl) (by kernel_rfl) (by kernel_rfl) (fun _ _ _ h => h) (Or.inl ⟨by rfl, fun w => ?_⟩) ?_
      · go_simp
      refine wpAny_ready (rs := [0, 3]) (by kernel_rfl) (by simp) ?_
      refine AllReady.cons rfl (fun K hK => ?_) ?_
      · go_simp
        refine hK _ _ ?_
        clear hK K
        refine wpAny_ready (rs := [3]) (by kernel_rfl) (by simp) ?_
        refine AllReady.cons rfl (fun K hK => ?_) ?_
        · go_simp
          refine hK _ _ ?_
          clear hK K
          refine wpAny_ready (rs := [4]) (by kernel_rfl) (by simp) ?_
          refine AllReady.cons rfl (fun K hK => ?_) ?_
          · go_simp
            refine hK _ _ ?_
            clear hK K
            refine wpAny_ready (rs := [5]) (by kernel_rfl) (by simp) ?_
            refine AllReady.cons rfl (fun K hK => ?_) ?_
            · refine step_appR tiP rfl (.tmp 16) (.tmp 20) rfl rfl HR1.out rfl (src_new W.drew (cs := [.pointer (some ⟨lb, 0, none⟩)]) rfl (by simp [Value.oneCell']) PT) (by omega) ?_
              intro A2 c2 W2 hrow2 hgr2
              obtain ⟨q1, q2, q3, q4⟩ := HRN.out A2 c2 W2 hrow2 hgr2
              clear hrow2 hgr2
              have QC := q1.cell
              have QF := q1.frozen
              have Q2 := Lib.hid q2
              have Q3 := Lib.hid q3
              have Q4 := Lib.hid q4
              clear q1 q2 q3 q4
              refine hK _ _ ?_
              clear hK K
              refine wpAny_ready (rs := [6]) (by kernel_rfl) (by simp) ?_
              refine AllReady.cons rfl (fun K hK => ?_) ?_
              · go_simp
                refine hK _ _ ?_
                clear hK K
                refine wpAny_done (by kernel_rfl) ?_ _
                gi_wp2
                exact ⟨⟨Q3.out.size, Q3.out.same⟩, fun k o hk ho => Q4.out k o hk ho, _, _, _, by rw [nos_app]; exact Q2.out⟩
              exact AllReady.nil
            exact AllReady.nil
          exact AllReady.nil
        exact AllReady.nil
      refine AllReady.cons rfl (fun K hK => ?_) ?_
      · go_simp
        refine hK _ _ ?_
        clear hK K
        refine wpAny_ready (rs := [0, 4]) (by kernel_rfl) (by simp) ?_
        refine AllReady.cons rfl (fun K hK => ?_) ?_
        · go_simp
          refine hK _ _ ?_
          clear hK K
          refine wpAny_ready (rs := [4]) (by kernel_rfl) (by simp) ?_
          refine AllReady.cons rfl (fun K hK => ?_) ?_
          · go_simp
            refine hK _ _ ?_
            clear hK K
            refine wpAny_ready (rs := [5]) (by kernel_rfl) (by simp) ?_
            refine AllReady.cons rfl (fun K hK => ?_) ?_
            · refine step_appR tiP rfl (.tmp 16) (.tmp 20) rfl rfl HR1.out rfl (src_new W.drew (cs := [.pointer (some ⟨lb, 0, none⟩)]) rfl (by simp [Value.oneCell']) PT) (by omega) ?_
              intro A2 c2 W2 hrow2 hgr2
              obtain ⟨q1, q2, q3, q4⟩ := HRN.out A2 c2 W2 hrow2 hgr2
              clear hrow2 hgr2
              have QC := q1.cell
              have QF := q1.frozen
              have Q2 := Lib.hid q2
              have Q3 := Lib.hid q3
              have Q4 := Lib.hid q4
              clear q1 q2 q3 q4
              refine hK _ _ ?_
              clear hK K
              refine wpAny_ready (rs := [6]) (by kernel_rfl) (by simp) ?_
              refine AllReady.cons rfl (fun K hK => ?_) ?_
              · go_simp
                refine hK _ _ ?_
                clear hK K
                refine wpAny_done (by kernel_rfl) ?_ _
                gi_wp2
                exact ⟨⟨Q3.out.size, Q3.out.same⟩, fun k o hk ho => Q4.out k o hk ho, _, _, _, by rw [nos_app]; exact Q2.out⟩
              exact AllReady.nil
            exact AllReady.nil
          exact AllReady.nil
        refine AllReady.cons rfl (fun K hK => ?_) ?_
        · go_simp
          refine hK _ _ ?_
          clear hK K
          refine wpAny_ready (rs := [0]) (by kernel_rfl) (by simp) ?_
          refine AllReady.cons rfl (fun K hK => ?_) ?_
          · go_simp
            refine hK _ _ ?_
            clear hK K
            refine wpAny_ready (rs := [5]) (by kernel_rfl) (by simp) ?_
            refine AllReady.cons rfl (fun K hK => ?_) ?_
            · refine step_appR tiP rfl (.tmp 16) (.tmp 20) rfl rfl HR1.out rfl (src_new W.drew (cs := [.pointer (some ⟨lb, 0, none⟩)]) rfl (by simp [Value.oneCell']) PT) (by omega) ?_
              intro A2 c2 W2 hrow2 hgr2
              obtain ⟨q1, q2, q3, q4⟩ := HRN.out A2 c2 W2 hrow2 hgr2
              clear hrow2 hgr2
              have QC := q1.cell
              have QF := q1.frozen
              have Q2 := Lib.hid q2
              have Q3 := Lib.hid q3
              have Q4 := Lib.hid q4
              clear q1 q2 q3 q4
              refine hK _ _ ?_
              clear hK K
              refine wpAny_ready (rs := [6]) (by kernel_rfl) (by simp) ?_
              refine AllReady.cons rfl (fun K hK => ?_) ?_
              · go_simp
                refine hK _ _ ?_
                clear hK K
                refine wpAny_done (by kernel_rfl) ?_ _
                gi_wp2
                exact ⟨⟨Q3.out.size, Q3.out.same⟩, fun k o hk ho => Q4.out k o hk ho, _, _, _, by rw [nos_app]; exact Q2.out⟩
              exact AllReady.nil
            exact AllReady.nil
          exact AllReady.nil
        exact AllReady.nil
      exact AllReady.nil
  case done =>
    rintro D ys W hD hys ⟨A, c2, bs, h⟩ hK
    have hbox := h.box
    have hyl : (nos ys).length = (n + 1) / 2 := by rw [hys, List.length_range]
    have hc := hbox.cell
    have HT := Lib.hid (h.tame (Tame.grown (N := w.heap.size) (grownBy_putObj' W D (.deferred none)) (fun r e => by cases e; exact ⟨by omega, _, hK, rfl⟩) h.mv.size))
    clear h hbox
    gi_wp2
    refine ⟨by simp, .inl ⟨_, _, rfl, run_takeDeferred hK, ?_⟩⟩
    obtain ⟨Us', u1, u2, u3⟩ := HT.out.good (by rw [hyl, hys])
    rw [hyl, List.take_of_length_le (by rw [HLEN.out]; omega)] at u2
    rw [hyl, List.drop_eq_nil_of_le (by rw [HLEN.out]; omega), List.append_nil] at u3
    have hul : bs.length = Us'.length := by rw [u1, heads_len]
    refine ⟨_, results_tmp rfl _ _ _, A, c2, Us', by rw [← hul]; rfl, ?_, HT.out.fresh, by rw [← u1]; exact HT.out.src, u2, u3, HT.out.mv⟩
    rw [← u1, ← hul]
    exact HT.out.row
  case stop =>
    rintro D c pre W _ _ h _
    exact h.elim
end Go.Proofs.YthhmhcmlbpdlbaaGreat.C10L
namespace Go.Proofs.YthhmhcmlbpdlbaaGreat.C10O
open Go.RowKit Mem MemS M10 M10T C01 Rep RepA RW C10T C10V C10J C10R C10L
set_option linter.unusedVariables false
set_option maxRecDepth 100000
/-- from the first level to this one -/
inductive Ch : List T → List T → Prop
  | here (Ts : List T) : Ch Ts Ts
  | step {Ts Us Vs : List T} : Ch Ts Us → 1 < Us.length → Up Us Vs → Ch Ts Vs
theorem Ch.lv {w : World} {Ts Us : List T} (h : Ch Ts Us) : Lv w Us → Lv w Ts := by
  induction h with
  | here => exact id
  | step h1 h2 h3 ih => exact fun hv => ih (.up h2 h3 hv)
theorem Lvl.lv {w : World} {Ts : List T} (h : Lvl w Ts) (h1 : Ts.length ≤ 1) : Lv w Ts := .top h1 h.is
theorem leaf_round {wr w4 : World} {A1 A4 : Option Addr} {i c1 c4 : Nat} {Ts : List T} {x : Int} {N R : Obj} (hN : N = .cells #[.int .i64 x, .pointer none, .pointer none, .pointer none] NT (0, 0))
    (hrow : Row wr A1 i c1 (heads Ts)) (hl : Lvl wr Ts) (hx : In .i64 x) (h4 : RowR RP w4 A4 (i + 1) c4 (raws (heads Ts) ++ [[.pointer (some ⟨wr.heap.size, 0, none⟩)]])) (hg : Gr A1 ((wr.alloc N).alloc R) A4 w4) :
    Row w4 A4 (i + 1) c4 (heads (Ts ++ [.leaf wr.heap.size x])) ∧ Lvl w4 (Ts ++ [.leaf wr.heap.size x]) ∧ (∀ a, A4 = some a → (∃ a1, A1 = some a1 ∧ a1.block = a.block) ∨ wr.heap.size ≤ a.block) ∧
    ∀ lo, lo ≤ wr.heap.size → (∀ a, A1 = some a → lo ≤ a.block) → Below lo wr w4 := by
  subst hN
  have hsz := hg.1.size
  simp only [World.size_alloc] at hsz
  have kept : ∀ k, k < wr.heap.size + 1 → (∀ a, A1 = some a → a.block ≠ k) → w4.heap[k]? = (wr.alloc (.cells #[.int .i64 x, .pointer none, .pointer none, .pointer none] NT (0, 0))).heap[k]? := fun k hk hn => by
    rw [Gr.kept hg (by simp; omega) hn]
    exact Below.heap_alloc _ _ _ (by simp; omega)
  have hk : Kp (fun _ => True) wr w4 := fun b cs _ hb => by
    have hlt := (Array.getElem?_eq_some_iff.1 hb).1
    rw [kept b (by omega) fun a e hne => ?_, Below.heap_alloc _ _ _ hlt]
    · exact hb
    · obtain ⟨cur, h⟩ := (hrow.blk e).2
      rw [hne] at h
      exact absurd (nt_ne hb h) (by decide)
  have hn : Nd w4 wr.heap.size x none none none := (kept _ (by omega) fun a e hne => by
    obtain ⟨cur, h⟩ := (hrow.blk e).2
    have := (Array.getElem?_eq_some_iff.1 h).1
    omega).trans (World.alloc_heap_new wr _)
  refine ⟨?_, ⟨fun t ht => ?_, ?_⟩, fun a e => ?_, fun lo h1 h2 => ?_⟩
  · unfold Row
    rw [show heads (Ts ++ [.leaf wr.heap.size x]) = heads Ts ++ [wr.heap.size] by simp [heads, T.b], raws_snoc]
    exact h4
  · rcases List.mem_append.1 ht with ht | ht
    · exact (hl.is t ht).keep (hk.mono fun _ _ => trivial)
    · rw [List.mem_singleton.1 ht]
      exact ⟨hx, hn, by simp⟩
  · rw [alls_app, alls_one]
    refine List.nodup_append.2 ⟨hl.nd, by simp [T.bs], fun a ha b hb => ?_⟩
    have := hl.lt a ha
    have e : b = wr.heap.size := by simpa [T.bs] using hb
    omega
  · rcases hg.2 a e with h | h
    · left
      cases A1 with
      | none => cases h
      | some a1 =>
        injection h with h
        exact ⟨a1, rfl, h⟩
    · right
      simp only [World.size_alloc] at h
      omega
  · exact (((Below.refl lo wr).alloc h1 _).alloc (by simp; omega) _).trans (Gr.below hg (by simp; omega) h2)
set_option maxHeartbeats 2000000 in
theorem itreeOver_any (A : Option Addr) (n c : Nat) (l : List Int) (w : World) (h : Rd .i64 w w.heap.size A n l) (hn : n ≤ 68719476735) :
    Calls Tryz.prog 113 #[.slice A n c] w fun e w' => ∃ A' c' Ts, e = .returned (.slice A' n c') ∧ vals Ts = l ∧ Row w' A' n c' (heads Ts) ∧ Lv w' Ts ∧ Below w.heap.size w w' := by
  have HL := Lib.hid h.len
  have HR := Lib.hid h
  have HWF := Lib.hid h.wf
  clear h
  obtain ⟨hu, hk, i, z, i1, i2, i3, i4, i5⟩ := tiP
  change Tryz.prog.underlying SPT = some (.slice PT) at hu
  change Tryz.prog.info? PT = some i at i1
  change i.size = 1 at i4
  go_enter Tryz.func113, Tryz.ntmps113
  go_wp2_with (at_make; refine wpList_make_own _ rfl _ _ SPT rfl 0 PT i z 1 hu i1 i2 i4 .i64 .i64 _ n rfl rfl rfl (by have := Nat.mul_le_mul_right n i5; omega) (by simp only [maxLen]; omega) (by omega) ?_; intro w1 hown1 hgr1; have HO1 := Lib.hid hown1; have HB1 := Lib.hid ((Below.refl w.heap.size w).grown hgr1 (Nat.le_refl _) (by simp)); clear hown1 hgr1)
  have hR0 : Row w1 (some ⟨w.heap.size, 0, none⟩) 0 n (heads []) := ⟨rfl, by simp [raws, heads], HO1.out⟩
  have HR0 := Lib.hid hR0
  clear hR0 HO1 hu hk i1 i2 i3 i4 i5
  go_loopw [3, 12] (fun ov iv wr => ∃ (i : Nat) (A1 : Option Addr) (c1 : Nat) (Ts : List T), i ≤ n ∧ iv = .int .i64 i ∧ ov = .slice A1 i c1 ∧ Row wr A1 i c1 (heads Ts) ∧ vals Ts = l.take i ∧ Lvl wr Ts ∧ (∀ b, b ∈ heads Ts → w.heap.size ≤ b) ∧ (∀ a, A1 = some a → w.heap.size ≤ a.block) ∧ Below w.heap.size w wr) (fun _ v _ => n - (intOf v).toNat)
  case atStart => exact ⟨0, _, n, [], by omega, rfl, rfl, HR0.out, rfl, ⟨by simp, by simp [alls]⟩, by simp [heads], fun a e => by injection e with e; subst e; exact Nat.le_refl _, HB1.out⟩
  case round =>
    obtain ⟨i, A1, c1, Ts, hi, rfl, rfl, hrow, hv, hl, hh, ha, hbel⟩ := hrel
    have HROW := Lib.hid hrow
    have HV := Lib.hid hv
    have HLV := Lib.hid hl
    have HH := Lib.hid hh
    have HA := Lib.hid ha
    have HX := Lib.hid hbel
    clear hrow hv hl hh ha hbel
    by_cases hin : i < n
    · obtain ⟨b, off, rfl, hlt, hcc⟩ := (HR.out.below HX.out (Nat.le_refl _)).cells (by omega)
      have d0 := hcc i hin
      have hx := getD_in HWF.out (show i < l.length by rw [HL.out]; exact hin)
      have htk : l.take (i + 1) = l.take i ++ [l.getD i 0] := by
        rw [List.take_succ_eq_append_getElem (show i < l.length by rw [HL.out]; exact hin)]
        simp [List.getD, List.getElem?_eq_getElem (show i < l.length by rw [HL.out]; exact hin)]
      generalize l.getD i 0 = x at d0 hx htk
      have HTK := Lib.hid htk
      have HIX := Lib.hid hx
      have HRW := Lib.hid (show RowR RP ((wr.alloc (.cells #[.int .i64 x, .pointer none, .pointer none, .pointer none] NT)).alloc (.cells #[.pointer (some ⟨wr.heap.size, 0, none⟩)] PT)) A1 i c1 (raws (heads Ts)) from ⟨HROW.out.1, HROW.out.2, (HROW.out.row.alloc _).alloc _⟩)
      have hsrc := src_new (R := RP) (wr.alloc (.cells #[.int .i64 x, .pointer none, .pointer none, .pointer none] NT)) (cs := [.pointer (some ⟨wr.heap.size, 0, none⟩)]) rfl (by simp [Value.oneCell']) PT
      rw [World.size_alloc] at hsrc
      have HSRC := Lib.hid hsrc
      clear hcc hx htk hlt hsrc
      go_wp2_with (at_builtin; refine wp_appR tiP rfl _ _ rfl rfl HRW.out rfl HSRC.out (by omega) ?_; intro A4 c4 w4 hrow4 hgr4)
      obtain ⟨q1, q2, q3, q4⟩ := leaf_round rfl HROW.out HLV.out HIX.out hrow4 hgr4
      have Q1 := Lib.hid q1
      have Q2 := Lib.hid q2
      have Q3 := Lib.hid q3
      have Q4 := Lib.hid (q4 w.heap.size HX.out.size HA.out)
      clear hrow4 hgr4 q1 q2 q3 q4 d0
      go_wp2
      go_roundw
      case rel => exact ⟨i + 1, A4, c4, _, by omega, by go_num, rfl, Q1.out, by rw [HTK.out, ← HV.out]; simp [vals, T.val], Q2.out, fun b hb => by
        rw [show heads (Ts ++ [.leaf wr.heap.size x]) = heads Ts ++ [wr.heap.size] by simp [heads, T.b]] at hb
        rcases List.mem_append.1 hb with hb | hb
        · exact HH.out b hb
        · rw [List.mem_singleton.1 hb]
          exact HX.out.size, fun a e => by
        rcases Q3.out a e with ⟨a1, e1, e2⟩ | h
        · have := HA.out a1 e1
          omega
        · have := HX.out.size
          omega, HX.out.trans Q4.out⟩
      case measure => simp [intOf]; omega
    · have hie : i = n := by omega
      subst hie
      rw [List.take_of_length_le (by rw [HL.out]; omega)] at HV
      have htl : Ts.length = i := by rw [← vals_len, HV.out, HL.out]
      have HTL := Lib.hid htl
      clear htl hin
      go_wp2
      go_loopw [6] (fun v ws => ∃ (A2 : Option Addr) (c2 : Nat) (Us : List T), v = .slice A2 Us.length c2 ∧ Us.length ≤ i ∧ Row ws A2 Us.length c2 (heads Us) ∧ Lvl ws Us ∧ Ch Ts Us ∧ (∀ b, b ∈ heads Us → w.heap.size ≤ b) ∧ Row ws A1 i c1 (heads Ts) ∧ Below w.heap.size w ws) (fun v _ => slLen v)
      case atStart => exact ⟨A1, c1, Ts, by rw [HTL.out], by rw [HTL.out]; omega, by rw [HTL.out]; exact HROW.out, HLV.out, .here _, HH.out, HROW.out, HX.out⟩
      case round =>
        obtain ⟨A2, c2, Us, rfl, hui, hrow2, hl2, hch, hh2, hr1, hbel2⟩ := hrel
        have HR1 := Lib.hid hr1
        have HCH := Lib.hid hch
        have HH2 := Lib.hid hh2
        have HX2 := Lib.hid hbel2
        have HL2 := Lib.hid hl2
        by_cases h1 : 1 < Us.length
        · have HC := Lib.hid (ilevelAbove_any A2 Us.length c2 Us _ hrow2 hl2 h1 (by omega))
          clear hrow2 hl2 hch hh2 hr1 hbel2
          go_wp2_with fail
          refine HC.out.mono ?_
          rintro e w5 ⟨A3, c3, Vs, rfl, g1, g2, g3, g4, g5, g6⟩
          have HG1 := Lib.hid g1
          have HG5 := Lib.hid g5
          have HCH2 := Lib.hid (Ch.step HCH.out h1 g4)
          have HHH := Lib.hid (show ∀ b, b ∈ heads Vs → w.heap.size ≤ b from fun b hb => by
            rcases g3 b hb with h | h
            · exact HH2.out b h
            · have := HX2.out.size
              omega)
          have HRR := Lib.hid (HR1.out.keep fun a cur e hc => (g6.block _ (Array.getElem?_eq_some_iff.1 hc).1 fun hb => by
            obtain ⟨cs, h⟩ := head_nd HL2.out hb
            exact absurd (nt_ne h hc) (by decide)).trans hc)
          have HBB := Lib.hid (HX2.out.trans (g6.below HH2.out HX2.out.size))
          have hvl := g4.len
          have HVL := Lib.hid (show Vs.length < Us.length ∧ Vs.length ≤ i by omega)
          clear g1 g2 g3 g4 g5 g6 hvl HC
          go_wp2
          go_roundw
          case rel => exact ⟨A3, c3, Vs, rfl, HVL.out.2, HG1.out, HG5.out, HCH2.out, HHH.out, HRR.out, HBB.out⟩
          case measure => exact HVL.out.1
        · clear hrow2 hl2 hch hh2 hr1 hbel2
          have hle : (Us.length : Int) ≤ 1 := by omega
          go_wp2
          go_ret
          exact ⟨A1, c1, Ts, rfl, HV.out, HR1.out, HCH.out.lv (Lvl.lv HL2.out (by omega)), HX2.out⟩
end Go.Proofs.YthhmhcmlbpdlbaaGreat.C10O
