/- The laws' own helpers on rows of signatures, in one form with those on numbers and strings (TW). -/
import Derived.Test.YthhmhcmlbpdlbaaT07
import Derived.Test.YthhmhcmlbpdlbaaTW
namespace Go.Proofs.Ythhmhcmlbpdlbaa.TWG07
open Go.RowKit Mem MemS Rep RepA Flat R07 T01 T07 TW
set_option linter.unusedVariables false
set_option maxRecDepth 100000
abbrev RL_Sig : Rep (List Sig) := slice 36 RSig
theorem own_blkG {w : World} {F : List Nat} {A : Option Addr} {n c : Nat} {zs : List Sig} (h : OwnF RSig w F A n c zs) : F = blk A ∧ ∀ {lo hi : Nat}, (∀ b, b ∈ F → lo ≤ b ∧ b < hi) → FOwnSig w lo hi A n c zs := by
  have h9 := h
  obtain ⟨raw, Fe, h1, rfl, h3, h4⟩ := h
  obtain ⟨rfl, _, _⟩ := els_of flSig h4
  refine ⟨by simp, fun {lo hi} hF => ?_⟩
  have := FOwn.of (lo := lo) (hi := hi) flSig ⟨_, h9, by cases A <;> simp [blk], hF⟩
  exact this
theorem u_sz_Sig (A : Option Addr) (n c : Nat) (z : List Sig) (q : Int) (w : World) (h : RL_Sig.rd w (Lt w.heap.size) [.slice A n c] z) (hq0 : 0 ≤ q) (hq1 : q ≤ 1048576) :
    Calls Try.prog 49 #[.slice A n c, .int .i64 q] w fun e w' => e = .returned (.int .i64 (if q < (z.length : Int) then -1 else q - (z.length : Int))) ∧ Below w.heap.size w w' := by
  obtain ⟨A', n', c', e, h1, h2, h3⟩ := h
  injection e with e
  injection e with e1 e2 e3
  subst e1 e2 e3
  rw [h3.len]
  exact (szSigS_any A n c q w hq0 hq1 (Nat.le_trans h1 h2)).mono fun e w' ⟨g1, g2⟩ => ⟨g1, by subst g2; exact Below.refl _ _⟩
theorem u_to_Sig (A : Option Addr) (n c : Nat) (z : List Sig) (w : World) (h : RL_Sig.rd w (Lt w.heap.size) [.slice A n c] z) (hn : z.length ≤ 1048576) :
    Calls Try.prog 52 #[.slice A n c] w fun e w' => ∃ A' n' c', e = .returned (.slice A' n' c') ∧ OwnI RL_Sig w' w.heap.size w'.heap.size [.slice A' n' c'] z ∧ Below w.heap.size w w' := by
  obtain ⟨A', n', c', e, h1, h2, h3⟩ := h
  injection e with e
  injection e with e1 e2 e3
  subst e1 e2 e3
  have hl := h3.len
  exact (toSigS_any A n c z w (FRd.of flSig h3) (by omega)).mono fun e w' ⟨A2, c2, g1, g2, g3⟩ => by
    obtain ⟨F, f1, f2, f3⟩ := (FOwn.to flSig g2).has
    exact ⟨A2, n, c2, g1, ⟨F, ⟨A2, n, c2, rfl, f1⟩, f2, f3⟩, g3⟩
theorem u_eq_Sig (A A' : Option Addr) (n c n' c' : Nat) (z : List Sig) (w : World) (h : RL_Sig.rd w (Lt w.heap.size) [.slice A n c] z) (h' : RL_Sig.rd w (Lt w.heap.size) [.slice A' n' c'] z) (hn : z.length ≤ 68719476736) :
    Calls Try.prog 45 #[.slice A n c, .slice A' n' c'] w fun e w' => e = .returned (.bool true) ∧ Below w.heap.size w w' := by
  obtain ⟨A1, n1, c1, e, h1, h2, h3⟩ := h
  injection e with e
  injection e with e1 e2 e3
  subst e1 e2 e3
  obtain ⟨A2, n2, c2, e, h1', h2', h3'⟩ := h'
  injection e with e
  injection e with e1 e2 e3
  subst e1 e2 e3
  have hl := h3.len
  have hl' := h3'.len
  obtain rfl : n' = n := by omega
  exact eqSigS_same _ _ A A' _ c c' z w (FRd.of flSig h3) (FRd.of flSig h3') (Nat.le_refl _) (Nat.le_refl _) (by omega)
theorem u_mark_Sig (F : List Nat) (A : Option Addr) (n c : Nat) (z : List Sig) (q : Int) (w : World) (h : RL_Sig.own w F [.slice A n c] z) (hn : z.length ≤ 68719476736) (hq0 : 0 ≤ q) (hq1 : q ≤ 1152921504606846976) :
    Calls Try.prog 46 #[.slice A n c, .int .i64 q] w fun e w' => e = .returned (.int .i64 (q + ((2 * z.length : Nat) : Int))) ∧ RL_Sig.own w' F [.slice A n c] (mkSigS q z.length) ∧ FrF F w w' := by
  obtain ⟨A', n', c', e, h3⟩ := h
  injection e with e
  injection e with e1 e2 e3
  subst e1 e2 e3
  obtain ⟨hF, ho⟩ := own_blkG h3
  subst hF
  obtain ⟨lo, hi, s1, s2⟩ := blk_set (A := A) (F := blk A) (fun _ h => h) (fun _ h => h)
  have hf := ho s1
  have hl := hf.len
  rw [hl] at hn ⊢
  refine (markSigS_any lo hi A n c z q w hf hn hq0 hq1).mono fun e w' ⟨g1, g2, g3⟩ => ⟨?_, ?_, FrF.of_fr g3 s2⟩
  · exact g1.trans (congrArg _ (congrArg _ (by omega)))
  · obtain ⟨F, f1, f2, f3⟩ := (FOwn.to flSig g2).has
    obtain ⟨rfl, _⟩ := own_blkG f1
    exact ⟨A, n, c, rfl, f1⟩
theorem u_held_Sig (A : Option Addr) (n c : Nat) (z : List Sig) (q : Int) (w : World) (h : RL_Sig.rd w (Lt w.heap.size) [.slice A n c] (mkSigS q z.length)) (hn : z.length ≤ 68719476736) (hq0 : 0 ≤ q) (hq1 : q ≤ 1152921504606846976) :
    Calls Try.prog 48 #[.slice A n c, .int .i64 q] w fun e w' => e = .returned (.int .i64 (q + ((2 * z.length : Nat) : Int))) ∧ Below w.heap.size w w' := by
  obtain ⟨A', n', c', e, h1, h2, h3⟩ := h
  injection e with e
  injection e with e1 e2 e3
  subst e1 e2 e3
  have hl := h3.len
  rw [mkSigS_len] at hl
  rw [hl] at h3 hn ⊢
  refine (heldSigS_marks _ A n c q w (FRd.of flSig h3) hn hq0 hq1).mono fun e w' ⟨g1, g2⟩ => ⟨g1.trans (congrArg _ (congrArg _ (by omega))), by subst g2; exact Below.refl _ _⟩
end Go.Proofs.Ythhmhcmlbpdlbaa.TWG07
