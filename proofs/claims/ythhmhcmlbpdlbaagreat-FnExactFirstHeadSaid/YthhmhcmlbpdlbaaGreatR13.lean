/- A struct as data: Head. -/
import Derived.Test.YthhmhcmlbpdlbaaGreatR06
import Derived.Test.YthhmhcmlbpdlbaaGreatRep
namespace Go.Proofs.YthhmhcmlbpdlbaaGreat.R13
open Go.RowKit Go.ChangeShapes Go.WideShapes Go.Deep Mem MemS Rep RepA Opn R06
set_option linter.unusedVariables false
set_option maxRecDepth 100000
structure Head where
  zone : Int
  epoch : Int
  kind : Int
  time : Int
  until_ : Int
  count : Int
  root : Int
  prev : Int
  keys : Keys
  heirs : Keys
  wait : Int
  judge : Keys
  frozen : Bool
deriving Inhabited
def RHead : Rep Head := iso 31 (pair RI (pair RI (pair RI (pair RI (pair RI (pair RI (pair RI (pair RI (pair RKeys (pair RKeys (pair RI (pair RKeys RBo)))))))))))) fun k => (k.zone, (k.epoch, (k.kind, (k.time, (k.until_, (k.count, (k.root, (k.prev, (k.keys, (k.heirs, (k.wait, (k.judge, k.frozen))))))))))))
theorem RHead_rd {w : World} {B : Nat} {cs : List Value} {k : Head} : RHead.rd w (Lt B) cs k ↔ ∃ A0 n0 c0 A1 n1 c1 A2 n2 c2, cs = [.int .i64 k.zone, .int .i64 k.epoch, .int .i64 k.kind, .int .i64 k.time, .int .i64 k.until_, .int .i64 k.count, .int .i64 k.root, .int .i64 k.prev, .slice A0 n0 c0, .int .i64 k.keys.need, .slice A1 n1 c1, .int .i64 k.heirs.need, .int .i64 k.wait, .slice A2 n2 c2, .int .i64 k.judge.need, .bool k.frozen] ∧ In .i64 k.zone ∧ In .i64 k.epoch ∧ In .i64 k.kind ∧ In .i64 k.time ∧ In .i64 k.until_ ∧ In .i64 k.count ∧ In .i64 k.root ∧ In .i64 k.prev ∧ RKeys.rd w (Lt B) [.slice A0 n0 c0, .int .i64 k.keys.need] k.keys ∧ RKeys.rd w (Lt B) [.slice A1 n1 c1, .int .i64 k.heirs.need] k.heirs ∧ In .i64 k.wait ∧ RKeys.rd w (Lt B) [.slice A2 n2 c2, .int .i64 k.judge.need] k.judge := by
  constructor
  · rintro ⟨d0, e0, rfl, ⟨rfl, h0⟩, ⟨d1, e1, rfl, ⟨rfl, h1⟩, ⟨d2, e2, rfl, ⟨rfl, h2⟩, ⟨d3, e3, rfl, ⟨rfl, h3⟩, ⟨d4, e4, rfl, ⟨rfl, h4⟩, ⟨d5, e5, rfl, ⟨rfl, h5⟩, ⟨d6, e6, rfl, ⟨rfl, h6⟩, ⟨d7, e7, rfl, ⟨rfl, h7⟩, ⟨d8, e8, rfl, h8, ⟨d9, e9, rfl, h9, ⟨d10, e10, rfl, ⟨rfl, h10⟩, ⟨d11, e11, rfl, h11, ⟨rfl, h12⟩⟩⟩⟩⟩⟩⟩⟩⟩⟩⟩⟩⟩
    obtain ⟨A0, n0, c0, rfl⟩ := RKeys_shape h8
    obtain ⟨A1, n1, c1, rfl⟩ := RKeys_shape h9
    obtain ⟨A2, n2, c2, rfl⟩ := RKeys_shape h11
    exact ⟨A0, n0, c0, A1, n1, c1, A2, n2, c2, rfl, h0, h1, h2, h3, h4, h5, h6, h7, h8, h9, h10, h11⟩
  · rintro ⟨A0, n0, c0, A1, n1, c1, A2, n2, c2, rfl, h0, h1, h2, h3, h4, h5, h6, h7, h8, h9, h10, h11⟩
    exact ⟨_, _, rfl, ⟨rfl, h0⟩, ⟨_, _, rfl, ⟨rfl, h1⟩, ⟨_, _, rfl, ⟨rfl, h2⟩, ⟨_, _, rfl, ⟨rfl, h3⟩, ⟨_, _, rfl, ⟨rfl, h4⟩, ⟨_, _, rfl, ⟨rfl, h5⟩, ⟨_, _, rfl, ⟨rfl, h6⟩, ⟨_, _, rfl, ⟨rfl, h7⟩, ⟨_, _, rfl, h8, ⟨_, _, rfl, h9, ⟨_, _, rfl, ⟨rfl, h10⟩, ⟨_, _, rfl, h11, ⟨rfl, trivial⟩⟩⟩⟩⟩⟩⟩⟩⟩⟩⟩⟩⟩
theorem RHead_shape {w : World} {P : Nat → Prop} {cs : List Value} {k : Head} (h : RHead.rd w P cs k) : ∃ A0 n0 c0 A1 n1 c1 A2 n2 c2, cs = [.int .i64 k.zone, .int .i64 k.epoch, .int .i64 k.kind, .int .i64 k.time, .int .i64 k.until_, .int .i64 k.count, .int .i64 k.root, .int .i64 k.prev, .slice A0 n0 c0, .int .i64 k.keys.need, .slice A1 n1 c1, .int .i64 k.heirs.need, .int .i64 k.wait, .slice A2 n2 c2, .int .i64 k.judge.need, .bool k.frozen] := by
  obtain ⟨d0, e0, rfl, ⟨rfl, h0⟩, ⟨d1, e1, rfl, ⟨rfl, h1⟩, ⟨d2, e2, rfl, ⟨rfl, h2⟩, ⟨d3, e3, rfl, ⟨rfl, h3⟩, ⟨d4, e4, rfl, ⟨rfl, h4⟩, ⟨d5, e5, rfl, ⟨rfl, h5⟩, ⟨d6, e6, rfl, ⟨rfl, h6⟩, ⟨d7, e7, rfl, ⟨rfl, h7⟩, ⟨d8, e8, rfl, h8, ⟨d9, e9, rfl, h9, ⟨d10, e10, rfl, ⟨rfl, h10⟩, ⟨d11, e11, rfl, h11, ⟨rfl, h12⟩⟩⟩⟩⟩⟩⟩⟩⟩⟩⟩⟩⟩ := h
  obtain ⟨A0, n0, c0, rfl⟩ := RKeys_shape h8
  obtain ⟨A1, n1, c1, rfl⟩ := RKeys_shape h9
  obtain ⟨A2, n2, c2, rfl⟩ := RKeys_shape h11
  exact ⟨A0, n0, c0, A1, n1, c1, A2, n2, c2, rfl⟩
theorem RHead_set {w : World} {F : List Nat} {cs : List Value} {k : Head} : RHead.own w F cs k ↔ ∃ A0 n0 c0 A1 n1 c1 A2 n2 c2 F8 F9 F11, cs = [.int .i64 k.zone, .int .i64 k.epoch, .int .i64 k.kind, .int .i64 k.time, .int .i64 k.until_, .int .i64 k.count, .int .i64 k.root, .int .i64 k.prev, .slice A0 n0 c0, .int .i64 k.keys.need, .slice A1 n1 c1, .int .i64 k.heirs.need, .int .i64 k.wait, .slice A2 n2 c2, .int .i64 k.judge.need, .bool k.frozen] ∧ F = F8 ++ (F9 ++ (F11)) ∧ In .i64 k.zone ∧ In .i64 k.epoch ∧ In .i64 k.kind ∧ In .i64 k.time ∧ In .i64 k.until_ ∧ In .i64 k.count ∧ In .i64 k.root ∧ In .i64 k.prev ∧ RKeys.own w F8 [.slice A0 n0 c0, .int .i64 k.keys.need] k.keys ∧ RKeys.own w F9 [.slice A1 n1 c1, .int .i64 k.heirs.need] k.heirs ∧ In .i64 k.wait ∧ RKeys.own w F11 [.slice A2 n2 c2, .int .i64 k.judge.need] k.judge := by
  constructor
  · rintro ⟨F0, G0, d0, e0, rfl, rfl, ⟨rfl, rfl, h0⟩, ⟨F1, G1, d1, e1, rfl, rfl, ⟨rfl, rfl, h1⟩, ⟨F2, G2, d2, e2, rfl, rfl, ⟨rfl, rfl, h2⟩, ⟨F3, G3, d3, e3, rfl, rfl, ⟨rfl, rfl, h3⟩, ⟨F4, G4, d4, e4, rfl, rfl, ⟨rfl, rfl, h4⟩, ⟨F5, G5, d5, e5, rfl, rfl, ⟨rfl, rfl, h5⟩, ⟨F6, G6, d6, e6, rfl, rfl, ⟨rfl, rfl, h6⟩, ⟨F7, G7, d7, e7, rfl, rfl, ⟨rfl, rfl, h7⟩, ⟨F8, G8, d8, e8, rfl, rfl, h8, ⟨F9, G9, d9, e9, rfl, rfl, h9, ⟨F10, G10, d10, e10, rfl, rfl, ⟨rfl, rfl, h10⟩, ⟨F11, G11, d11, e11, rfl, rfl, h11, ⟨rfl, rfl, h12⟩⟩⟩⟩⟩⟩⟩⟩⟩⟩⟩⟩⟩
    obtain ⟨A0, n0, c0, rfl⟩ := RKeys_shape (RKeys.ord h8)
    obtain ⟨A1, n1, c1, rfl⟩ := RKeys_shape (RKeys.ord h9)
    obtain ⟨A2, n2, c2, rfl⟩ := RKeys_shape (RKeys.ord h11)
    exact ⟨A0, n0, c0, A1, n1, c1, A2, n2, c2, _, _, _, rfl, by simp, h0, h1, h2, h3, h4, h5, h6, h7, h8, h9, h10, h11⟩
  · rintro ⟨A0, n0, c0, A1, n1, c1, A2, n2, c2, F8, F9, F11, rfl, rfl, h0, h1, h2, h3, h4, h5, h6, h7, h8, h9, h10, h11⟩
    refine ⟨[], (F8 ++ (F9 ++ (F11))), _, _, ?_, rfl, ⟨rfl, rfl, h0⟩, ⟨[], (F8 ++ (F9 ++ (F11))), _, _, ?_, rfl, ⟨rfl, rfl, h1⟩, ⟨[], (F8 ++ (F9 ++ (F11))), _, _, ?_, rfl, ⟨rfl, rfl, h2⟩, ⟨[], (F8 ++ (F9 ++ (F11))), _, _, ?_, rfl, ⟨rfl, rfl, h3⟩, ⟨[], (F8 ++ (F9 ++ (F11))), _, _, ?_, rfl, ⟨rfl, rfl, h4⟩, ⟨[], (F8 ++ (F9 ++ (F11))), _, _, ?_, rfl, ⟨rfl, rfl, h5⟩, ⟨[], (F8 ++ (F9 ++ (F11))), _, _, ?_, rfl, ⟨rfl, rfl, h6⟩, ⟨[], (F8 ++ (F9 ++ (F11))), _, _, ?_, rfl, ⟨rfl, rfl, h7⟩, ⟨F8, (F9 ++ (F11)), _, _, ?_, rfl, h8, ⟨F9, (F11), _, _, ?_, rfl, h9, ⟨[], (F11), _, _, ?_, rfl, ⟨rfl, rfl, h10⟩, ⟨F11, [], _, _, ?_, rfl, h11, ⟨rfl, rfl, trivial⟩⟩⟩⟩⟩⟩⟩⟩⟩⟩⟩⟩⟩ <;> simp
def totHead (k : Head) : Nat := totKeys k.keys + totKeys k.heirs + totKeys k.judge
def cntHead (k : Head) : Nat := cntKeys k.keys + cntKeys k.heirs + cntKeys k.judge
theorem cntHead_le (k : Head) : cntHead k ≤ totHead k := by
  have h8 := cntKeys_le k.keys
  have h9 := cntKeys_le k.heirs
  have h11 := cntKeys_le k.judge
  unfold cntHead totHead
  omega
theorem cells_Head {l : List Value} (h : (Array.mk l).size = 16) : ∃ z0 z1 z2 z3 z4 z5 z6 z7 z8 z9 z10 z11 z12 z13 z14 z15, l = [z0, z1, z2, z3, z4, z5, z6, z7, z8, z9, z10, z11, z12, z13, z14, z15] := by
  match l, h with
  | [z0, z1, z2, z3, z4, z5, z6, z7, z8, z9, z10, z11, z12, z13, z14, z15], _ => exact ⟨z0, z1, z2, z3, z4, z5, z6, z7, z8, z9, z10, z11, z12, z13, z14, z15, rfl⟩
end Go.Proofs.YthhmhcmlbpdlbaaGreat.R13
