/- The drawing functions of chapter 2: what they return, and that they write into nothing that was there. -/
import Derived.Test.YtpjfmbcandgpeaaD01
import Derived.Test.YtpjfmbcandgpeaaC02B
namespace Go.Proofs.Ytpjfmbcandgpeaa.D02
set_option linter.unusedVariables false
open Go.RowKit Mem M02 C01 C02 C02R C02B D01 SL
theorem rd_brow {w : World} {B n : Nat} {A : Option Addr} {zs : List Int} (h : Rd .u8 w B A n zs) : BRow w B A n := fun hn => by
  obtain ⟨b, off, e, hlt, hc⟩ := h.cells hn
  refine ⟨b, off, e, hlt, fun j hj => ?_⟩
  have := byt_in h.wf (zs.getD j 0) (by have hl := h.len; simp [List.getD, List.getElem?_eq_getElem (show j < zs.length by omega)])
  exact ⟨_, this.1, this.2, hc j hj⟩
theorem cur_low {w w' : World} {B g : Nat} (h : Cur w B g) (hb : Below (g + 1) w w') : Cur w' B g := by
  obtain ⟨h0, A, n, c, i, k, hh, h1, h2, h3, h4⟩ := h
  exact ⟨h0, A, n, c, i, k, (hb.block g (by omega)).trans hh, h1, h2, h3, h4.below (hb.mono (by omega))⟩
theorem own_kept {k : IntKind} {w w' : World} {g lo hi n c : Nat} {A : Option Addr} {zs : List Int} (h : Own k w lo hi A n c zs) (hk : Kept g w w') (hg : g < lo) : Own k w' lo hi A n c zs :=
  h.keep fun i h0 h1 _ => hk.block i h0 (by omega)
theorem kept_then {w w' w'' : World} {g : Nat} (h : Kept g w w') (hb : Below w.heap.size w' w'') : Kept g w w'' :=
  ⟨hb.os.trans h.os, hb.tape.trans h.tape, hb.output.trans h.output, Nat.le_trans h.size hb.size, fun i hi hne => (hb.block i hi).trans (h.block i hi hne)⟩
end Go.Proofs.Ytpjfmbcandgpeaa.D02
