/- The laws' own helpers on slices of numbers and of strings, all in one form: what came in as data of a Rep, what is kept by sets of blocks. -/
import Derived.Test.YthhmhcmlbpdlbaaGreatT01
import Derived.Test.YthhmhcmlbpdlbaaGreatRep
namespace Go.Proofs.YthhmhcmlbpdlbaaGreat.TW
open Go.RowKit Mem MemS Rep RepA T01
set_option linter.unusedVariables false
set_option maxRecDepth 100000
abbrev RLI : Rep (List Int) := slice 24 RI
/-- all blocks but those of F are kept -/
structure FrF (F : List Nat) (w w' : World) : Prop where
  os : w'.os = w.os
  tape : w'.tape = w.tape
  output : w'.output = w.output
  size : w.heap.size ≤ w'.heap.size
  block : ∀ k, k < w.heap.size → k ∉ F → w'.heap[k]? = w.heap[k]?
section
variable {α : Type} {R : Rep α} {w w' w'' : World} {F G : List Nat} {cs : List Value} {z : α} {lo hi B : Nat}
theorem FrF.refl (F : List Nat) (w : World) : FrF F w w := ⟨rfl, rfl, rfl, Nat.le_refl _, fun _ _ _ => rfl⟩
theorem FrF.trans (h : FrF F w w') (h' : FrF F w' w'') : FrF F w w'' :=
  ⟨h'.os.trans h.os, h'.tape.trans h.tape, h'.output.trans h.output, Nat.le_trans h.size h'.size, fun k h1 h2 => (h'.block k (by have := h.size; omega) h2).trans (h.block k h1 h2)⟩
theorem FrF.more (h : FrF F w w') (hs : ∀ k, k ∈ F → k ∈ G) : FrF G w w' := ⟨h.os, h.tape, h.output, h.size, fun k h1 h2 => h.block k h1 fun h3 => h2 (hs k h3)⟩
theorem FrF.of_below (h : Below w.heap.size w w') (F : List Nat) : FrF F w w' := ⟨h.os, h.tape, h.output, h.size, fun k h1 _ => h.block k h1⟩
theorem FrF.fr (h : FrF F w w') (hF : ∀ b, b ∈ F → lo ≤ b ∧ b < hi) : Fr lo hi w w' := ⟨h.os, h.tape, h.output, h.size, fun k h1 h2 => h.block k h1 fun h3 => by have := hF k h3; omega⟩
theorem FrF.of_fr (h : Fr lo hi w w') (hF : ∀ b, lo ≤ b → b < hi → b ∈ F) : FrF F w w' := ⟨h.os, h.tape, h.output, h.size, fun k h1 h2 => h.block k h1 (by
  by_cases h3 : lo ≤ k
  · by_cases h4 : k < hi
    · exact absurd (hF k h3 h4) h2
    · exact .inr (by omega)
  · exact .inl (by omega))⟩
theorem own_frf (h : R.own w G cs z) (hf : FrF F w w') (hd : ∀ b, b ∈ G → b ∉ F) : R.own w' G cs z := R.okeep h fun i hi hl => hf.block i hl (hd i hi)
theorem rd_up (h : R.rd w (Lt w.heap.size) cs z) (hb : Below w.heap.size w w') : R.rd w' (Lt w'.heap.size) cs z := R.more (R.keep h fun i hi => hb.block i hi) fun i hi => Nat.lt_of_lt_of_le hi hb.size
theorem rd_upB (h : R.rd w (Lt B) cs z) (hB : B ≤ w.heap.size) (hb : Below w.heap.size w w') : R.rd w' (Lt w'.heap.size) cs z := rd_up (R.more h fun i hi => Nat.lt_of_lt_of_le hi hB) hb
/-- two parts in two intervals -/
theorem pair_own {β : Type} {S : Rep β} {c1 c2 : List Value} {a : α} {b : β} {mid : Nat} (h1 : OwnI R w lo mid c1 a) (h2 : OwnI S w mid hi c2 b) (hl : lo ≤ mid) (hm : mid ≤ hi) : OwnI (pair R S) w lo hi (c1 ++ c2) (a, b) := by
  obtain ⟨F1, a1, a2, a3⟩ := h1
  obtain ⟨F2, b1, b2, b3⟩ := h2
  refine ⟨F1 ++ F2, ⟨F1, F2, c1, c2, rfl, rfl, a1, b1⟩, List.nodup_append.2 ⟨a2, b2, fun i hi j hj e => ?_⟩, fun i hi => ?_⟩
  · have := a3 i hi
    have := b3 j hj
    omega
  · rcases List.mem_append.1 hi with hi | hi
    · have := a3 i hi
      omega
    · have := b3 i hi
      omega
/-- marks by sets of blocks give marks by an interval -/
theorem mark_int {P : Program} {f : FuncId} {args : Array Value} {z' : α} {r : Value} (hm : ∀ F, R.own w F cs z → F.Nodup → Calls P f args w fun e w' => e = .returned r ∧ R.own w' F cs z' ∧ FrF F w w') (h : OwnI R w lo hi cs z) :
    Calls P f args w fun e w' => e = .returned r ∧ OwnI R w' lo hi cs z' ∧ Fr lo hi w w' := by
  obtain ⟨F, h1, h2, h3⟩ := h
  exact (hm F h1 h2).mono fun e w' ⟨g1, g2, g3⟩ => ⟨g1, ⟨F, g2, h2, h3⟩, g3.fr h3⟩
end
theorem u_szI (A : Option Addr) (n c : Nat) (z : List Int) (q : Int) (w : World) (h : RLI.rd w (Lt w.heap.size) [.slice A n c] z) (hq0 : 0 ≤ q) (hq1 : q ≤ 1048576) :
    Calls Tryz.prog 58 #[.slice A n c, .int .i64 q] w fun e w' => e = .returned (.int .i64 (if q < (z.length : Int) then -1 else q - (z.length : Int))) ∧ Below w.heap.size w w' := by
  obtain ⟨A', n', c', e, h1, h2, h3⟩ := h
  injection e with e
  injection e with e1 e2 e3
  subst e1 e2 e3
  have hl := h3.ints.len
  rw [hl]
  unfold maxLen at h2
  clear h3 hl
  by_cases h : q < n
  · rw [if_pos h]
    have h1 : q - n < 0 := by omega
    go_enter Tryz.func58, Tryz.ntmps58
    go_wp2
    go_ret
    exact ⟨rfl, Below.refl _ _⟩
  · rw [if_neg h]
    have h1 : ¬ q - n < 0 := by omega
    go_enter Tryz.func58, Tryz.ntmps58
    go_wp2
    go_ret
    exact ⟨rfl, Below.refl _ _⟩
theorem u_toI (A : Option Addr) (n c : Nat) (z : List Int) (w : World) (h : RLI.rd w (Lt w.heap.size) [.slice A n c] z) (hn : z.length ≤ 1048576) :
    Calls Tryz.prog 60 #[.slice A n c] w fun e w' => ∃ A' n' c', e = .returned (.slice A' n' c') ∧ OwnI RLI w' w.heap.size w'.heap.size [.slice A' n' c'] z ∧ Below w.heap.size w w' := by
  obtain ⟨A', n', c', e, h1, h2, h3⟩ := h
  injection e with e
  injection e with e1 e2 e3
  subst e1 e2 e3
  have hl := h3.ints.len
  exact (toIntS_any A n c z w h3.ints (by omega)).mono fun e w' ⟨A2, c2, g1, g2, g3⟩ => ⟨A2, n, c2, g1, ⟨blk A2, ⟨A2, n, c2, rfl, OwnF.of_ints g2⟩, by cases A2 <;> simp [blk], Own.blk_in g2⟩, g3⟩
theorem u_eqI (A A' : Option Addr) (n c n' c' : Nat) (z : List Int) (w : World) (h : RLI.rd w (Lt w.heap.size) [.slice A n c] z) (h' : RLI.rd w (Lt w.heap.size) [.slice A' n' c'] z) (hn : z.length ≤ 1099511627776) :
    Calls Tryz.prog 62 #[.slice A n c, .slice A' n' c'] w fun e w' => e = .returned (.bool true) ∧ Below w.heap.size w w' := by
  obtain ⟨A1, n1, c1, e, h1, h2, h3⟩ := h
  injection e with e
  injection e with e1 e2 e3
  subst e1 e2 e3
  obtain ⟨A1, n1, c1, e, h1', h2', h3'⟩ := h'
  injection e with e
  injection e with e1 e2 e3
  subst e1 e2 e3
  have hl := h3.ints.len
  have hl' := h3'.ints.len
  obtain rfl : n' = n := by omega
  exact (eqIntS_same _ _ A A' _ c c' z w h3.ints h3'.ints (by omega)).mono fun e w' ⟨g1, g2⟩ => ⟨g1, g2.below _⟩
theorem blk_set {A : Option Addr} {F : List Nat} (hF : ∀ b, b ∈ F → b ∈ blk A) (hF' : ∀ b, b ∈ blk A → b ∈ F) : ∃ lo hi, (∀ b, b ∈ F → lo ≤ b ∧ b < hi) ∧ ∀ b, lo ≤ b → b < hi → b ∈ F := by
  cases A with
  | none => exact ⟨0, 0, fun b hb => by have := hF b hb; simp [blk] at this, fun b _ h => by omega⟩
  | some a => exact ⟨a.block, a.block + 1, fun b hb => by have := hF b hb; simp [blk] at this; omega, fun b h1 h2 => hF' b (by simp [blk]; omega)⟩
theorem own_leaf_blk {β : Type} {ty : TypeId} {f : β → Value} {Q : β → Prop} {h1 : ∀ a, (f a).oneCell' = true} {w : World} {F : List Nat} {A : Option Addr} {n c : Nat} {zs : List β} (h : OwnF (leaf ty f Q h1) w F A n c zs) : F = blk A := by
  obtain ⟨raw, Fe, h2, rfl, h3, h4⟩ := h
  rw [(els_leaf h4).1, List.append_nil]
theorem u_markI (F : List Nat) (A : Option Addr) (n c : Nat) (z : List Int) (q : Int) (w : World) (h : RLI.own w F [.slice A n c] z) (hn : z.length ≤ 1099511627776) (hq0 : 0 ≤ q) (hq1 : q ≤ 1152921504606846976) :
    Calls Tryz.prog 64 #[.slice A n c, .int .i64 q] w fun e w' => e = .returned (.int .i64 (q + (z.length : Int))) ∧ RLI.own w' F [.slice A n c] (marks .i64 q z.length) ∧ FrF F w w' := by
  obtain ⟨A', n', c', e, h3⟩ := h
  injection e with e
  injection e with e1 e2 e3
  subst e1 e2 e3
  have hF := own_leaf_blk h3
  subst hF
  obtain ⟨lo, hi, s1, s2⟩ := blk_set (A := A) (F := blk A) (fun _ h => h) (fun _ h => h)
  have ho := h3.ints s1
  have hl := ho.len
  rw [hl] at hn ⊢
  exact (markIntS_any lo hi A n c z q w ho hn hq0 hq1).mono fun e w' ⟨g1, g2, g3⟩ => ⟨g1, ⟨A, n, c, rfl, OwnF.of_ints g2⟩, FrF.of_fr g3 s2⟩
theorem u_heldI (A : Option Addr) (n c : Nat) (z : List Int) (q : Int) (w : World) (h : RLI.rd w (Lt w.heap.size) [.slice A n c] (marks .i64 q z.length)) (hn : z.length ≤ 1099511627776) (hq0 : 0 ≤ q) (hq1 : q ≤ 1152921504606846976) :
    Calls Tryz.prog 105 #[.slice A n c, .int .i64 q] w fun e w' => e = .returned (.int .i64 (q + (z.length : Int))) ∧ Below w.heap.size w w' := by
  obtain ⟨A', n', c', e, h1, h2, h3⟩ := h
  injection e with e
  injection e with e1 e2 e3
  subst e1 e2 e3
  have hl := h3.ints.len
  rw [marks_len] at hl
  rw [hl] at h3 hn ⊢
  exact (heldIntS_marks _ A n c q w h3.ints hn hq0 hq1).mono fun e w' ⟨g1, g2⟩ => ⟨g1, by subst g2; exact Below.refl _ _⟩
end Go.Proofs.YthhmhcmlbpdlbaaGreat.TW
