/- Chapter 10: the tree over a list of leaves: treeOver. -/
import Derived.Test.YtcpfdhammhcoaaaC10L
namespace Go.Proofs.Ytcpfdhammhcoaaa.C10O
open Go.RowKit Mem MemS M10 M10T C01 Rep RepA RW C10T C10V C10J C10R C10L
set_option linter.unusedVariables false
set_option maxRecDepth 100000
/-- from the first level to this one -/
inductive Ch : List T → List T → Prop
  | here (Ts : List T) : Ch Ts Ts
  | step {Ts Us Vs : List T} : Ch Ts Us → 1 < Us.length → Up Us Vs → Ch Ts Vs
theorem Ch.lv {w : World} {Ts Us : List T} (h : Ch Ts Us) : Lv w Us → Lv w Ts := by
  induction h with
  | here => exact id
  | step h1 h2 h3 ih => exact fun hv => ih (.up h2 h3 hv)
theorem Lvl.lv {w : World} {Ts : List T} (h : Lvl w Ts) (h1 : Ts.length ≤ 1) : Lv w Ts := .top h1 h.is
theorem leaf_round {wr w4 : World} {A1 A4 : Option Addr} {i c1 c4 : Nat} {Ts : List T} {x : Int} {N R : Obj} (hN : N = .cells #[.int .i64 x, .pointer none, .pointer none, .pointer none] NT (0, 0))
    (hrow : Row wr A1 i c1 (heads Ts)) (hl : Lvl wr Ts) (hx : In .i64 x) (h4 : RowR RP w4 A4 (i + 1) c4 (raws (heads Ts) ++ [[.pointer (some ⟨wr.heap.size, 0, none⟩)]])) (hg : Gr A1 ((wr.alloc N).alloc R) A4 w4) :
    Row w4 A4 (i + 1) c4 (heads (Ts ++ [.leaf wr.heap.size x])) ∧ Lvl w4 (Ts ++ [.leaf wr.heap.size x]) ∧ (∀ a, A4 = some a → (∃ a1, A1 = some a1 ∧ a1.block = a.block) ∨ wr.heap.size ≤ a.block) ∧
    ∀ lo, lo ≤ wr.heap.size → (∀ a, A1 = some a → lo ≤ a.block) → Below lo wr w4 := by
  subst hN
  have hsz := hg.1.size
  simp only [World.size_alloc] at hsz
  have kept : ∀ k, k < wr.heap.size + 1 → (∀ a, A1 = some a → a.block ≠ k) → w4.heap[k]? = (wr.alloc (.cells #[.int .i64 x, .pointer none, .pointer none, .pointer none] NT (0, 0))).heap[k]? := fun k hk hn => by
    rw [Gr.kept hg (by simp; omega) hn]
    exact Below.heap_alloc _ _ _ (by simp; omega)
  have hk : Kp (fun _ => True) wr w4 := fun b cs _ hb => by
    have hlt := (Array.getElem?_eq_some_iff.1 hb).1
    rw [kept b (by omega) fun a e hne => ?_, Below.heap_alloc _ _ _ hlt]
    · exact hb
    · obtain ⟨cur, h⟩ := (hrow.blk e).2
      rw [hne] at h
      exact absurd (nt_ne hb h) (by decide)
  have hn : Nd w4 wr.heap.size x none none none := (kept _ (by omega) fun a e hne => by
    obtain ⟨cur, h⟩ := (hrow.blk e).2
    have := (Array.getElem?_eq_some_iff.1 h).1
    omega).trans (World.alloc_heap_new wr _)
  refine ⟨?_, ⟨fun t ht => ?_, ?_⟩, fun a e => ?_, fun lo h1 h2 => ?_⟩
  · unfold Row
    rw [show heads (Ts ++ [.leaf wr.heap.size x]) = heads Ts ++ [wr.heap.size] by simp [heads, T.b], raws_snoc]
    exact h4
  · rcases List.mem_append.1 ht with ht | ht
    · exact (hl.is t ht).keep (hk.mono fun _ _ => trivial)
    · rw [List.mem_singleton.1 ht]
      exact ⟨hx, hn, by simp⟩
  · rw [alls_app, alls_one]
    refine List.nodup_append.2 ⟨hl.nd, by simp [T.bs], fun a ha b hb => ?_⟩
    have := hl.lt a ha
    have e : b = wr.heap.size := by simpa [T.bs] using hb
    omega
  · rcases hg.2 a e with h | h
    · left
      cases A1 with
      | none => cases h
      | some a1 =>
        injection h with h
        exact ⟨a1, rfl, h⟩
    · right
      simp only [World.size_alloc] at h
      omega
  · exact (((Below.refl lo wr).alloc h1 _).alloc (by simp; omega) _).trans (Gr.below hg (by simp; omega) h2)
set_option maxHeartbeats 2000000 in
theorem itreeOver_any (A : Option Addr) (n c : Nat) (l : List Int) (w : World) (h : Rd .i64 w w.heap.size A n l) (hn : n ≤ 68719476735) :
    Calls Try.prog 39 #[.slice A n c] w fun e w' => ∃ A' c' Ts, e = .returned (.slice A' n c') ∧ vals Ts = l ∧ Row w' A' n c' (heads Ts) ∧ Lv w' Ts ∧ Below w.heap.size w w' := by
  have HL := Lib.hid h.len
  have HR := Lib.hid h
  have HWF := Lib.hid h.wf
  clear h
  obtain ⟨hu, hk, i, z, i1, i2, i3, i4, i5⟩ := tiP
  change Try.prog.underlying SPT = some (.slice PT) at hu
  change Try.prog.info? PT = some i at i1
  change i.size = 1 at i4
  go_enter Try.func39, Try.ntmps39
  go_wp2_with (at_make; refine wpList_make_own _ rfl _ _ SPT rfl 0 PT i z 1 hu i1 i2 i4 .i64 .i64 _ n rfl rfl rfl (by have := Nat.mul_le_mul_right n i5; omega) (by simp only [maxLen]; omega) (by omega) ?_; intro w1 hown1 hgr1; have HO1 := Lib.hid hown1; have HB1 := Lib.hid ((Below.refl w.heap.size w).grown hgr1 (Nat.le_refl _) (by simp)); clear hown1 hgr1)
  have hR0 : Row w1 (some ⟨w.heap.size, 0, none⟩) 0 n (heads []) := ⟨rfl, by simp [raws, heads], HO1.out⟩
  have HR0 := Lib.hid hR0
  clear hR0 HO1 hu hk i1 i2 i3 i4 i5
  go_loopw [3, 12] (fun ov iv wr => ∃ (i : Nat) (A1 : Option Addr) (c1 : Nat) (Ts : List T), i ≤ n ∧ iv = .int .i64 i ∧ ov = .slice A1 i c1 ∧ Row wr A1 i c1 (heads Ts) ∧ vals Ts = l.take i ∧ Lvl wr Ts ∧ (∀ b, b ∈ heads Ts → w.heap.size ≤ b) ∧ (∀ a, A1 = some a → w.heap.size ≤ a.block) ∧ Below w.heap.size w wr) (fun _ v _ => n - (intOf v).toNat)
  case atStart => exact ⟨0, _, n, [], by omega, rfl, rfl, HR0.out, rfl, ⟨by simp, by simp [alls]⟩, by simp [heads], fun a e => by injection e with e; subst e; exact Nat.le_refl _, HB1.out⟩
  case round =>
    obtain ⟨i, A1, c1, Ts, hi, rfl, rfl, hrow, hv, hl, hh, ha, hbel⟩ := hrel
    have HROW := Lib.hid hrow
    have HV := Lib.hid hv
    have HLV := Lib.hid hl
    have HH := Lib.hid hh
    have HA := Lib.hid ha
    have HX := Lib.hid hbel
    clear hrow hv hl hh ha hbel
    by_cases hin : i < n
    · obtain ⟨b, off, rfl, hlt, hcc⟩ := (HR.out.below HX.out (Nat.le_refl _)).cells (by omega)
      have d0 := hcc i hin
      have hx := getD_in HWF.out (show i < l.length by rw [HL.out]; exact hin)
      have htk : l.take (i + 1) = l.take i ++ [l.getD i 0] := by
        rw [List.take_succ_eq_append_getElem (show i < l.length by rw [HL.out]; exact hin)]
        simp [List.getD, List.getElem?_eq_getElem (show i < l.length by rw [HL.out]; exact hin)]
      generalize l.getD i 0 = x at d0 hx htk
      have HTK := Lib.hid htk
      have HIX := Lib.hid hx
      have HRW := Lib.hid (show RowR RP ((wr.alloc (.cells #[.int .i64 x, .pointer none, .pointer none, .pointer none] NT)).alloc (.cells #[.pointer (some ⟨wr.heap.size, 0, none⟩)] PT)) A1 i c1 (raws (heads Ts)) from ⟨HROW.out.1, HROW.out.2, (HROW.out.row.alloc _).alloc _⟩)
      have hsrc := src_new (R := RP) (wr.alloc (.cells #[.int .i64 x, .pointer none, .pointer none, .pointer none] NT)) (cs := [.pointer (some ⟨wr.heap.size, 0, none⟩)]) rfl (by simp [Value.oneCell']) PT
      rw [World.size_alloc] at hsrc
      have HSRC := Lib.hid hsrc
      clear hcc hx htk hlt hsrc
      go_wp2_with (at_builtin; refine wp_appR tiP rfl _ _ rfl rfl HRW.out rfl HSRC.out (by omega) ?_; intro A4 c4 w4 hrow4 hgr4)
      obtain ⟨q1, q2, q3, q4⟩ := leaf_round rfl HROW.out HLV.out HIX.out hrow4 hgr4
      have Q1 := Lib.hid q1
      have Q2 := Lib.hid q2
      have Q3 := Lib.hid q3
      have Q4 := Lib.hid (q4 w.heap.size HX.out.size HA.out)
      clear hrow4 hgr4 q1 q2 q3 q4 d0
      go_wp2
      go_roundw
      case rel => exact ⟨i + 1, A4, c4, _, by omega, by go_num, rfl, Q1.out, by rw [HTK.out, ← HV.out]; simp [vals, T.val], Q2.out, fun b hb => by
        rw [show heads (Ts ++ [.leaf wr.heap.size x]) = heads Ts ++ [wr.heap.size] by simp [heads, T.b]] at hb
        rcases List.mem_append.1 hb with hb | hb
        · exact HH.out b hb
        · rw [List.mem_singleton.1 hb]
          exact HX.out.size, fun a e => by
        rcases Q3.out a e with ⟨a1, e1, e2⟩ | h
        · have := HA.out a1 e1
          omega
        · have := HX.out.size
          omega, HX.out.trans Q4.out⟩
      case measure => simp [intOf]; omega
    · have hie : i = n := by omega
      subst hie
      rw [List.take_of_length_le (by rw [HL.out]; omega)] at HV
      have htl : Ts.length = i := by rw [← vals_len, HV.out, HL.out]
      have HTL := Lib.hid htl
      clear htl hin
      go_wp2
      go_loopw [6] (fun v ws => ∃ (A2 : Option Addr) (c2 : Nat) (Us : List T), v = .slice A2 Us.length c2 ∧ Us.length ≤ i ∧ Row ws A2 Us.length c2 (heads Us) ∧ Lvl ws Us ∧ Ch Ts Us ∧ (∀ b, b ∈ heads Us → w.heap.size ≤ b) ∧ Row ws A1 i c1 (heads Ts) ∧ Below w.heap.size w ws) (fun v _ => slLen v)
      case atStart => exact ⟨A1, c1, Ts, by rw [HTL.out], by rw [HTL.out]; omega, by rw [HTL.out]; exact HROW.out, HLV.out, .here _, HH.out, HROW.out, HX.out⟩
      case round =>
        obtain ⟨A2, c2, Us, rfl, hui, hrow2, hl2, hch, hh2, hr1, hbel2⟩ := hrel
        have HR1 := Lib.hid hr1
        have HCH := Lib.hid hch
        have HH2 := Lib.hid hh2
        have HX2 := Lib.hid hbel2
        have HL2 := Lib.hid hl2
        by_cases h1 : 1 < Us.length
        · have HC := Lib.hid (ilevelAbove_any A2 Us.length c2 Us _ hrow2 hl2 h1 (by omega))
          clear hrow2 hl2 hch hh2 hr1 hbel2
          go_wp2_with fail
          refine HC.out.mono ?_
          rintro e w5 ⟨A3, c3, Vs, rfl, g1, g2, g3, g4, g5, g6⟩
          have HG1 := Lib.hid g1
          have HG5 := Lib.hid g5
          have HCH2 := Lib.hid (Ch.step HCH.out h1 g4)
          have HHH := Lib.hid (show ∀ b, b ∈ heads Vs → w.heap.size ≤ b from fun b hb => by
            rcases g3 b hb with h | h
            · exact HH2.out b h
            · have := HX2.out.size
              omega)
          have HRR := Lib.hid (HR1.out.keep fun a cur e hc => (g6.block _ (Array.getElem?_eq_some_iff.1 hc).1 fun hb => by
            obtain ⟨cs, h⟩ := head_nd HL2.out hb
            exact absurd (nt_ne h hc) (by decide)).trans hc)
          have HBB := Lib.hid (HX2.out.trans (g6.below HH2.out HX2.out.size))
          have hvl := g4.len
          have HVL := Lib.hid (show Vs.length < Us.length ∧ Vs.length ≤ i by omega)
          clear g1 g2 g3 g4 g5 g6 hvl HC
          go_wp2
          go_roundw
          case rel => exact ⟨A3, c3, Vs, rfl, HVL.out.2, HG1.out, HG5.out, HCH2.out, HHH.out, HRR.out, HBB.out⟩
          case measure => exact HVL.out.1
        · clear hrow2 hl2 hch hh2 hr1 hbel2
          have hle : (Us.length : Int) ≤ 1 := by omega
          go_wp2
          go_ret
          exact ⟨A1, c1, Ts, rfl, HV.out, HR1.out, HCH.out.lv (Lvl.lv HL2.out (by omega)), HX2.out⟩
end Go.Proofs.Ytcpfdhammhcoaaa.C10O
