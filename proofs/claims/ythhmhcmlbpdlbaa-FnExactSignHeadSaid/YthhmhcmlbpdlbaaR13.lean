/- A struct as data: Head. -/
import Derived.Test.YthhmhcmlbpdlbaaR06
import Derived.Test.YthhmhcmlbpdlbaaRep
namespace Go.Proofs.Ythhmhcmlbpdlbaa.R13
open Go.RowKit Go.ChangeShapes Go.WideShapes Go.Deep Mem MemS Rep RepA Opn R06
set_option linter.unusedVariables false
set_option maxRecDepth 100000
structure Head where
  zone : Int
  epoch : Int
  kind : Int
  time : Int
  until_ : Int
  count : Int
  root : Int
  prev : Int
  keys : Keys
  heirs : Keys
  wait : Int
  judge : Keys
  frozen : Bool
deriving Inhabited
def RHead : Rep Head := iso 35 (pair RI (pair RI (pair RI (pair RI (pair RI (pair RI (pair RI (pair RI (pair RKeys (pair RKeys (pair RI (pair RKeys RBo)))))))))))) fun k => (k.zone, (k.epoch, (k.kind, (k.time, (k.until_, (k.count, (k.root, (k.prev, (k.keys, (k.heirs, (k.wait, (k.judge, k.frozen))))))))))))
theorem RHead_rd {w : World} {B : Nat} {cs : List Value} {k : Head} : RHead.rd w (Lt B) cs k ↔ ∃ A0 n0 c0 A1 n1 c1 A2 n2 c2, cs = [.int .i64 k.zone, .int .i64 k.epoch, .int .i64 k.kind, .int .i64 k.time, .int .i64 k.until_, .int .i64 k.count, .int .i64 k.root, .int .i64 k.prev, .slice A0 n0 c0, .int .i64 k.keys.need, .slice A1 n1 c1, .int .i64 k.heirs.need, .int .i64 k.wait, .slice A2 n2 c2, .int .i64 k.judge.need, .bool k.frozen] ∧ In .i64 k.zone ∧ In .i64 k.epoch ∧ In .i64 k.kind ∧ In .i64 k.time ∧ In .i64 k.until_ ∧ In .i64 k.count ∧ In .i64 k.root ∧ In .i64 k.prev ∧ RKeys.rd w (Lt B) [.slice A0 n0 c0, .int .i64 k.keys.need] k.keys ∧ RKeys.rd w (Lt B) [.slice A1 n1 c1, .int .i64 k.heirs.need] k.heirs ∧ In .i64 k.wait ∧ RKeys.rd w (Lt B) [.slice A2 n2 c2, .int .i64 k.judge.need] k.judge := by
  constructor
  · rintro ⟨d0, e0, rfl, ⟨rfl, h0⟩, ⟨d1, e1, rfl, ⟨rfl, h1⟩, ⟨d2, e2, rfl, ⟨rfl, h2⟩, ⟨d3, e3, rfl, ⟨rfl, h3⟩, ⟨d4, e4, rfl, ⟨rfl, h4⟩, ⟨d5, e5, rfl, ⟨rfl, h5⟩, ⟨d6, e6, rfl, ⟨rfl, h6⟩, ⟨d7, e7, rfl, ⟨rfl, h7⟩, ⟨d8, e8, rfl, h8, ⟨d9, e9, rfl, h9, ⟨d10, e10, rfl, ⟨rfl, h10⟩, ⟨d11, e11, rfl, h11, ⟨rfl, h12⟩⟩⟩⟩⟩⟩⟩⟩⟩⟩⟩⟩⟩
    obtain ⟨A0, n0, c0, rfl⟩ := RKeys_shape h8
    obtain ⟨A1, n1, c1, rfl⟩ := RKeys_shape h9
    obtain ⟨A2, n2, c2, rfl⟩ := RKeys_shape h11
    exact ⟨A0, n0, c0, A1, n1, c1, A2, n2, c2, rfl, h0, h1, h2, h3, h4, h5, h6, h7, h8, h9, h10, h11⟩
  · rintro ⟨A0, n0, c0, A1, n1, c1, A2, n2, c2, rfl, h0, h1, h2, h3, h4, h5, h6, h7, h8, h9, h10, h11⟩
    exact ⟨_, _, rfl, ⟨rfl, h0⟩, ⟨_, _, rfl, ⟨rfl, h1⟩, ⟨_, _, rfl, ⟨rfl, h2⟩, ⟨_, _, rfl, ⟨rfl, h3⟩, ⟨_, _, rfl, ⟨rfl, h4⟩, ⟨_, _, rfl, ⟨rfl, h5⟩, ⟨_, _, rfl, ⟨rfl, h6⟩, ⟨_, _, rfl, ⟨rfl, h7⟩, ⟨_, _, rfl, h8, ⟨_, _, rfl, h9, ⟨_, _, rfl, ⟨rfl, h10⟩, ⟨_, _, rfl, h11, ⟨rfl, trivial⟩⟩⟩⟩⟩⟩⟩⟩⟩⟩⟩⟩⟩
theorem RHead_shape {w : World} {P : Nat → Prop} {cs : List Value} {k : Head} (h : RHead.rd w P cs k) : ∃ A0 n0 c0 A1 n1 c1 A2 n2 c2, cs = [.int .i64 k.zone, .int .i64 k.epoch, .int .i64 k.kind, .int .i64 k.time, .int .i64 k.until_, .int .i64 k.count, .int .i64 k.root, .int .i64 k.prev, .slice A0 n0 c0, .int .i64 k.keys.need, .slice A1 n1 c1, .int .i64 k.heirs.need, .int .i64 k.wait, .slice A2 n2 c2, .int .i64 k.judge.need, .bool k.frozen] := by
  obtain ⟨d0, e0, rfl, ⟨rfl, h0⟩, ⟨d1, e1, rfl, ⟨rfl, h1⟩, ⟨d2, e2, rfl, ⟨rfl, h2⟩, ⟨d3, e3, rfl, ⟨rfl, h3⟩, ⟨d4, e4, rfl, ⟨rfl, h4⟩, ⟨d5, e5, rfl, ⟨rfl, h5⟩, ⟨d6, e6, rfl, ⟨rfl, h6⟩, ⟨d7, e7, rfl, ⟨rfl, h7⟩, ⟨d8, e8, rfl, h8, ⟨d9, e9, rfl, h9, ⟨d10, e10, rfl, ⟨rfl, h10⟩, ⟨d11, e11, rfl, h11, ⟨rfl, h12⟩⟩⟩⟩⟩⟩⟩⟩⟩⟩⟩⟩⟩ := h
  obtain ⟨A0, n0, c0, rfl⟩ := RKeys_shape h8
  obtain ⟨A1, n1, c1, rfl⟩ := RKeys_shape h9
  obtain ⟨A2, n2, c2, rfl⟩ := RKeys_shape h11
  exact ⟨A0, n0, c0, A1, n1, c1, A2, n2, c2, rfl⟩
theorem RHead_set {w : World} {F : List Nat} {cs : List Value} {k : Head} : RHead.own w F cs k ↔ ∃ A0 n0 c0 A1 n1 c1 A2 n2 c2 F8 F9 F11, cs = [.int .i64 k.zone, .int .i64 k.epoch, .int .i64 k.kind, .int .i64 k.time, .int .i64 k.until_, .int .i64 k.count, .int .i64 k.root, .int .i64 k.prev, .slice A0 n0 c0, .int .i64 k.keys.need, .slice A1 n1 c1, .int .i64 k.heirs.need, .int .i64 k.wait, .slice A2 n2 c2, .int .i64 k.judge.need, .bool k.frozen] ∧ F = F8 ++ (F9 ++ (F11)) ∧ In .i64 k.zone ∧ In .i64 k.epoch ∧ In .i64 k.kind ∧ In .i64 k.time ∧ In .i64 k.until_ ∧ In .i64 k.count ∧ In .i64 k.root ∧ In .i64 k.prev ∧ RKeys.own w F8 [.slice A0 n0 c0, .int .i64 k.keys.need] k.keys ∧ RKeys.own w F9 [.slice A1 n1 c1, .int .i64 k.heirs.need] k.heirs ∧ In .i64 k.wait ∧ RKeys.own w F11 [.slice A2 n2 c2, .int .i64 k.judge.need] k.judge := by
  constructor
  · rintro ⟨F0, G0, d0, e0, rfl, rfl, ⟨rfl, rfl, h0⟩, ⟨F1, G1, d1, e1, rfl, rfl, ⟨rfl, rfl, h1⟩, ⟨F2, G2, d2, e2, rfl, rfl, ⟨rfl, rfl, h2⟩, ⟨F3, G3, d3, e3, rfl, rfl, ⟨rfl, rfl, h3⟩, ⟨F4, G4, d4, e4, rfl, rfl, ⟨rfl, rfl, h4⟩, ⟨F5, G5, d5, e5, rfl, rfl, ⟨rfl, rfl, h5⟩, ⟨F6, G6, d6, e6, rfl, rfl, ⟨rfl, rfl, h6⟩, ⟨F7, G7, d7, e7, rfl, rfl, ⟨rfl, rfl, h7⟩, ⟨F8, G8, d8, e8, rfl, rfl, h8, ⟨F9, G9, d9, e9, rfl, rfl, h9, ⟨F10, G10, d10, e10, rfl, rfl, ⟨rfl, rfl, h10⟩, ⟨F11, G11, d11, e11, rfl, rfl, h11, ⟨rfl, rfl, h12⟩⟩⟩⟩⟩⟩⟩⟩⟩⟩⟩⟩⟩
    obtain ⟨A0, n0, c0, rfl⟩ := RKeys_shape (RKeys.ord h8)
    obtain ⟨A1, n1, c1, rfl⟩ := RKeys_shape (RKeys.ord h9)
    obtain ⟨A2, n2, c2, rfl⟩ := RKeys_shape (RKeys.ord h11)
    exact ⟨A0, n0, c0, A1, n1, c1, A2, n2, c2, _, _, _, rfl, by simp, h0, h1, h2, h3, h4, h5, h6, h7, h8, h9, h10, h11⟩
  · rintro ⟨A0, n0, c0, A1, n1, c1, A2, n2, c2, F8, F9, F11, rfl, rfl, h0, h1, h2, h3, h4, h5, h6, h7, h8, h9, h10, h11⟩
    refine ⟨[], (F8 ++ (F9 ++ (F11))), _, _, ?_, rfl, ⟨rfl, rfl, h0⟩, ⟨[], (F8 ++ (F9 ++ (F11))), _, _, ?_, rfl, ⟨rfl, rfl, h1⟩, ⟨[], (F8 ++ (F9 ++ (F11))), _, _, ?_, rfl, ⟨rfl, rfl, h2⟩, ⟨[], (F8 ++ (F9 ++ (F11))), _, _, ?_, rfl, ⟨rfl, rfl, h3⟩, ⟨[], (F8 ++ (F9 ++ (F11))), _, _, ?_, rfl, ⟨rfl, rfl, h4⟩, ⟨[], (F8 ++ (F9 ++ (F11))), _, _, ?_, rfl, ⟨rfl, rfl, h5⟩, ⟨[], (F8 ++ (F9 ++ (F11))), _, _, ?_, rfl, ⟨rfl, rfl, h6⟩, ⟨[], (F8 ++ (F9 ++ (F11))), _, _, ?_, rfl, ⟨rfl, rfl, h7⟩, ⟨F8, (F9 ++ (F11)), _, _, ?_, rfl, h8, ⟨F9, (F11), _, _, ?_, rfl, h9, ⟨[], (F11), _, _, ?_, rfl, ⟨rfl, rfl, h10⟩, ⟨F11, [], _, _, ?_, rfl, h11, ⟨rfl, rfl, trivial⟩⟩⟩⟩⟩⟩⟩⟩⟩⟩⟩⟩⟩ <;> simp
theorem opens_Head : Opens RHead 32 := by
  intro H enc W base spare held fuel cs x h
  obtain ⟨xs, n, _, _, hlen, hxs, hf⟩ := DataW.trod_struct Try.underlying32 h
  have hl : cs.length = 16 := hlen.trans (by kernel_rfl)
  match cs, hl with
  | [c0_, c1_, c2_, c3_, c4_, c5_, c6_, c7_, c8_, c9_, c10_, c11_, c12_, c13_, c14_, c15_], _ =>
    have h0 : DataW.trod enc Try.prog W base spare held n 3 (List.take (Try.prog.cellsOf 3) (List.drop 0 [c0_, c1_, c2_, c3_, c4_, c5_, c6_, c7_, c8_, c9_, c10_, c11_, c12_, c13_, c14_, c15_])) = xs[0]? := hf 0 _ rfl
    have h1 : DataW.trod enc Try.prog W base spare held n 3 (List.take (Try.prog.cellsOf 3) (List.drop 1 [c0_, c1_, c2_, c3_, c4_, c5_, c6_, c7_, c8_, c9_, c10_, c11_, c12_, c13_, c14_, c15_])) = xs[1]? := hf 1 _ rfl
    have h2 : DataW.trod enc Try.prog W base spare held n 3 (List.take (Try.prog.cellsOf 3) (List.drop 2 [c0_, c1_, c2_, c3_, c4_, c5_, c6_, c7_, c8_, c9_, c10_, c11_, c12_, c13_, c14_, c15_])) = xs[2]? := hf 2 _ rfl
    have h3 : DataW.trod enc Try.prog W base spare held n 3 (List.take (Try.prog.cellsOf 3) (List.drop 3 [c0_, c1_, c2_, c3_, c4_, c5_, c6_, c7_, c8_, c9_, c10_, c11_, c12_, c13_, c14_, c15_])) = xs[3]? := hf 3 _ rfl
    have h4 : DataW.trod enc Try.prog W base spare held n 3 (List.take (Try.prog.cellsOf 3) (List.drop 4 [c0_, c1_, c2_, c3_, c4_, c5_, c6_, c7_, c8_, c9_, c10_, c11_, c12_, c13_, c14_, c15_])) = xs[4]? := hf 4 _ rfl
    have h5 : DataW.trod enc Try.prog W base spare held n 3 (List.take (Try.prog.cellsOf 3) (List.drop 5 [c0_, c1_, c2_, c3_, c4_, c5_, c6_, c7_, c8_, c9_, c10_, c11_, c12_, c13_, c14_, c15_])) = xs[5]? := hf 5 _ rfl
    have h6 : DataW.trod enc Try.prog W base spare held n 3 (List.take (Try.prog.cellsOf 3) (List.drop 6 [c0_, c1_, c2_, c3_, c4_, c5_, c6_, c7_, c8_, c9_, c10_, c11_, c12_, c13_, c14_, c15_])) = xs[6]? := hf 6 _ rfl
    have h7 : DataW.trod enc Try.prog W base spare held n 3 (List.take (Try.prog.cellsOf 3) (List.drop 7 [c0_, c1_, c2_, c3_, c4_, c5_, c6_, c7_, c8_, c9_, c10_, c11_, c12_, c13_, c14_, c15_])) = xs[7]? := hf 7 _ rfl
    have h8 : DataW.trod enc Try.prog W base spare held n 24 (List.take (Try.prog.cellsOf 24) (List.drop 8 [c0_, c1_, c2_, c3_, c4_, c5_, c6_, c7_, c8_, c9_, c10_, c11_, c12_, c13_, c14_, c15_])) = xs[8]? := hf 8 _ rfl
    have h9 : DataW.trod enc Try.prog W base spare held n 24 (List.take (Try.prog.cellsOf 24) (List.drop 10 [c0_, c1_, c2_, c3_, c4_, c5_, c6_, c7_, c8_, c9_, c10_, c11_, c12_, c13_, c14_, c15_])) = xs[9]? := hf 9 _ rfl
    have h10 : DataW.trod enc Try.prog W base spare held n 3 (List.take (Try.prog.cellsOf 3) (List.drop 12 [c0_, c1_, c2_, c3_, c4_, c5_, c6_, c7_, c8_, c9_, c10_, c11_, c12_, c13_, c14_, c15_])) = xs[10]? := hf 10 _ rfl
    have h11 : DataW.trod enc Try.prog W base spare held n 24 (List.take (Try.prog.cellsOf 24) (List.drop 13 [c0_, c1_, c2_, c3_, c4_, c5_, c6_, c7_, c8_, c9_, c10_, c11_, c12_, c13_, c14_, c15_])) = xs[11]? := hf 11 _ rfl
    have h12 : DataW.trod enc Try.prog W base spare held n 4 (List.take (Try.prog.cellsOf 4) (List.drop 15 [c0_, c1_, c2_, c3_, c4_, c5_, c6_, c7_, c8_, c9_, c10_, c11_, c12_, c13_, c14_, c15_])) = xs[12]? := hf 12 _ rfl
    rw [show Try.prog.cellsOf 3 = 1 by kernel_rfl] at h0
    rw [show Try.prog.cellsOf 3 = 1 by kernel_rfl] at h1
    rw [show Try.prog.cellsOf 3 = 1 by kernel_rfl] at h2
    rw [show Try.prog.cellsOf 3 = 1 by kernel_rfl] at h3
    rw [show Try.prog.cellsOf 3 = 1 by kernel_rfl] at h4
    rw [show Try.prog.cellsOf 3 = 1 by kernel_rfl] at h5
    rw [show Try.prog.cellsOf 3 = 1 by kernel_rfl] at h6
    rw [show Try.prog.cellsOf 3 = 1 by kernel_rfl] at h7
    rw [show Try.prog.cellsOf 24 = 2 by kernel_rfl] at h8
    rw [show Try.prog.cellsOf 24 = 2 by kernel_rfl] at h9
    rw [show Try.prog.cellsOf 3 = 1 by kernel_rfl] at h10
    rw [show Try.prog.cellsOf 24 = 2 by kernel_rfl] at h11
    rw [show Try.prog.cellsOf 4 = 1 by kernel_rfl] at h12
    simp only [List.drop_zero, List.drop_succ_cons, List.take_succ_cons, List.take_zero] at h0 h1 h2 h3 h4 h5 h6 h7 h8 h9 h10 h11 h12
    have hx : xs.length = 13 := hxs
    rw [List.getElem?_eq_getElem (show 0 < xs.length by omega)] at h0
    rw [List.getElem?_eq_getElem (show 1 < xs.length by omega)] at h1
    rw [List.getElem?_eq_getElem (show 2 < xs.length by omega)] at h2
    rw [List.getElem?_eq_getElem (show 3 < xs.length by omega)] at h3
    rw [List.getElem?_eq_getElem (show 4 < xs.length by omega)] at h4
    rw [List.getElem?_eq_getElem (show 5 < xs.length by omega)] at h5
    rw [List.getElem?_eq_getElem (show 6 < xs.length by omega)] at h6
    rw [List.getElem?_eq_getElem (show 7 < xs.length by omega)] at h7
    rw [List.getElem?_eq_getElem (show 8 < xs.length by omega)] at h8
    rw [List.getElem?_eq_getElem (show 9 < xs.length by omega)] at h9
    rw [List.getElem?_eq_getElem (show 10 < xs.length by omega)] at h10
    rw [List.getElem?_eq_getElem (show 11 < xs.length by omega)] at h11
    rw [List.getElem?_eq_getElem (show 12 < xs.length by omega)] at h12
    obtain ⟨a0, r0⟩ := opens_int Try.underlying3 _ _ _ _ _ _ _ _ _ h0
    obtain ⟨a1, r1⟩ := opens_int Try.underlying3 _ _ _ _ _ _ _ _ _ h1
    obtain ⟨a2, r2⟩ := opens_int Try.underlying3 _ _ _ _ _ _ _ _ _ h2
    obtain ⟨a3, r3⟩ := opens_int Try.underlying3 _ _ _ _ _ _ _ _ _ h3
    obtain ⟨a4, r4⟩ := opens_int Try.underlying3 _ _ _ _ _ _ _ _ _ h4
    obtain ⟨a5, r5⟩ := opens_int Try.underlying3 _ _ _ _ _ _ _ _ _ h5
    obtain ⟨a6, r6⟩ := opens_int Try.underlying3 _ _ _ _ _ _ _ _ _ h6
    obtain ⟨a7, r7⟩ := opens_int Try.underlying3 _ _ _ _ _ _ _ _ _ h7
    obtain ⟨a8, r8⟩ := opens_Keys _ _ _ _ _ _ _ _ _ h8
    obtain ⟨a9, r9⟩ := opens_Keys _ _ _ _ _ _ _ _ _ h9
    obtain ⟨a10, r10⟩ := opens_int Try.underlying3 _ _ _ _ _ _ _ _ _ h10
    obtain ⟨a11, r11⟩ := opens_Keys _ _ _ _ _ _ _ _ _ h11
    obtain ⟨a12, r12⟩ := opens_bool Try.underlying4 _ _ _ _ _ _ _ _ _ h12
    exact ⟨⟨a0, a1, a2, a3, a4, a5, a6, a7, a8, a9, a10, a11, a12⟩, [c0_], [c1_, c2_, c3_, c4_, c5_, c6_, c7_, c8_, c9_, c10_, c11_, c12_, c13_, c14_, c15_], rfl, r0, [c1_], [c2_, c3_, c4_, c5_, c6_, c7_, c8_, c9_, c10_, c11_, c12_, c13_, c14_, c15_], rfl, r1, [c2_], [c3_, c4_, c5_, c6_, c7_, c8_, c9_, c10_, c11_, c12_, c13_, c14_, c15_], rfl, r2, [c3_], [c4_, c5_, c6_, c7_, c8_, c9_, c10_, c11_, c12_, c13_, c14_, c15_], rfl, r3, [c4_], [c5_, c6_, c7_, c8_, c9_, c10_, c11_, c12_, c13_, c14_, c15_], rfl, r4, [c5_], [c6_, c7_, c8_, c9_, c10_, c11_, c12_, c13_, c14_, c15_], rfl, r5, [c6_], [c7_, c8_, c9_, c10_, c11_, c12_, c13_, c14_, c15_], rfl, r6, [c7_], [c8_, c9_, c10_, c11_, c12_, c13_, c14_, c15_], rfl, r7, [c8_, c9_], [c10_, c11_, c12_, c13_, c14_, c15_], rfl, r8, [c10_, c11_], [c12_, c13_, c14_, c15_], rfl, r9, [c12_], [c13_, c14_, c15_], rfl, r10, [c13_, c14_], [c15_], rfl, r11, r12⟩
def totHead (k : Head) : Nat := totKeys k.keys + totKeys k.heirs + totKeys k.judge
def cntHead (k : Head) : Nat := cntKeys k.keys + cntKeys k.heirs + cntKeys k.judge
theorem cntHead_le (k : Head) : cntHead k ≤ totHead k := by
  have h8 := cntKeys_le k.keys
  have h9 := cntKeys_le k.heirs
  have h11 := cntKeys_le k.judge
  unfold cntHead totHead
  omega
theorem cells_Head {l : List Value} (h : (Array.mk l).size = 16) : ∃ z0 z1 z2 z3 z4 z5 z6 z7 z8 z9 z10 z11 z12 z13 z14 z15, l = [z0, z1, z2, z3, z4, z5, z6, z7, z8, z9, z10, z11, z12, z13, z14, z15] := by
  match l, h with
  | [z0, z1, z2, z3, z4, z5, z6, z7, z8, z9, z10, z11, z12, z13, z14, z15], _ => exact ⟨z0, z1, z2, z3, z4, z5, z6, z7, z8, z9, z10, z11, z12, z13, z14, z15, rfl⟩
end Go.Proofs.Ythhmhcmlbpdlbaa.R13
