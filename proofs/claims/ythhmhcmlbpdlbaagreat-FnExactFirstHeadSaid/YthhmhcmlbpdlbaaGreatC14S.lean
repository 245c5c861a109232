/- Chapter 14: signed heads: what the functions compute. Chapter 14: signed heads: what the model's functions return. Chapter 14: EqualSigned, the model's: the signatures one by one, as structs. -/
import Derived.Test.YthhmhcmlbpdlbaaGreatM07
import Derived.Test.YthhmhcmlbpdlbaaGreatC13S
import Derived.Test.YthhmhcmlbpdlbaaGreatR14
import Derived.Test.YthhmhcmlbpdlbaaGreatC07S
import Derived.Test.YthhmhcmlbpdlbaaGreatLD
import Derived.Test.YthhmhcmlbpdlbaaGreatRKA
import Derived.Laws.StructEq
namespace Go.Proofs.YthhmhcmlbpdlbaaGreat.M14
open Go.RowKit R06 R07 R13 R14 C01 M03 M06 M07 M13
set_option linter.unusedVariables false
def zonOf (k : Keys) (salt : Int) : Int := hsh (239 :: salt :: keysInts k)
def signHd (held : List Int) (k : Keys) (h : Head) : Signed := ⟨h, signBy held k.list (headInts h)⟩
def isFst (s : Signed) : Bool :=
  isHd s.head && ((s.head.epoch == 0) && ((s.head.kind == 1) && (!s.head.frozen && ((s.head.zone == zonOf s.head.keys s.head.prev) && isSgn s.head.keys (headInts s.head) s.sigs))))
def cntSd (s : Signed) (k : Keys) : Nat := cntS k.list (headInts s.head) s.sigs
def eqSd (a b : Signed) : Bool := eqHd a.head b.head && decide (a.sigs = b.sigs)
theorem eqSd_iff {a b : Signed} : eqSd a b = true ↔ a = b := by
  unfold eqSd
  rcases a with ⟨h, l⟩
  rcases b with ⟨h', l'⟩
  simp only [Bool.and_eq_true, decide_eq_true_eq, eqHd_iff, Signed.mk.injEq]
end Go.Proofs.YthhmhcmlbpdlbaaGreat.M14
namespace Go.Proofs.YthhmhcmlbpdlbaaGreat.C14S
open Go.RowKit Mem MemS Rep Flat R06 R07 R13 R14 M03 M06 M07 M13 M14 C01 C03S C03H C03D C06S C07S C13S L13 BX RG RGS
open RKA hiding inI64
set_option linter.unusedVariables false
set_option linter.unusedSimpArgs false
set_option maxRecDepth 100000
theorem upS {w w' : World} {cs : List Value} {k : Signed} (h : RSigned.rd w (Lt w.heap.size) cs k) (hb : Below w.heap.size w w') : RSigned.rd w' (Lt w'.heap.size) cs k := RSigned.more (RSigned.keep h fun i hi => hb.block i hi) fun i hi => Nat.lt_of_lt_of_le hi hb.size
/-- what a signed head's cells are, part by part -/
theorem signed_parts {w : World} {B : Nat} {cs : List Value} {k : Signed} (h : RSigned.rd w (Lt B) cs k) : ∃ A0 n0 c0 A1 n1 c1 A2 n2 c2 A3 n3 c3, cs = [.int .i64 k.head.zone, .int .i64 k.head.epoch, .int .i64 k.head.kind, .int .i64 k.head.time, .int .i64 k.head.until_, .int .i64 k.head.count, .int .i64 k.head.root, .int .i64 k.head.prev, .slice A0 n0 c0, .int .i64 k.head.keys.need, .slice A1 n1 c1, .int .i64 k.head.heirs.need, .int .i64 k.head.wait, .slice A2 n2 c2, .int .i64 k.head.judge.need, .bool k.head.frozen, .slice A3 n3 c3] ∧ RHead.rd w (Lt B) [.int .i64 k.head.zone, .int .i64 k.head.epoch, .int .i64 k.head.kind, .int .i64 k.head.time, .int .i64 k.head.until_, .int .i64 k.head.count, .int .i64 k.head.root, .int .i64 k.head.prev, .slice A0 n0 c0, .int .i64 k.head.keys.need, .slice A1 n1 c1, .int .i64 k.head.heirs.need, .int .i64 k.head.wait, .slice A2 n2 c2, .int .i64 k.head.judge.need, .bool k.head.frozen] k.head ∧ RKeys.rd w (Lt B) [.slice A0 n0 c0, .int .i64 k.head.keys.need] k.head.keys ∧ In .i64 k.head.prev ∧ n3 ≤ c3 ∧ FRdSig w B A3 n3 k.sigs := by
  obtain ⟨A0, n0, c0, A1, n1, c1, A2, n2, c2, A3, n3, c3, rfl, h0, x1, y1, h1⟩ := RSigned_rd.1 h
  obtain ⟨A0', n0', c0', A1', n1', c1', A2', n2', c2', e, ⟨_, _, _, _, _, _, _, i8, _⟩, g0, _, _⟩ := head_parts h0
  simp only [List.cons.injEq, Value.slice.injEq, true_and, and_true] at e
  obtain ⟨⟨rfl, rfl, rfl⟩, -⟩ := e
  exact ⟨A0, n0, c0, A1, n1, c1, A2, n2, c2, A3, n3, c3, rfl, h0, g0, i8, x1, h1⟩
theorem upF {w w' : World} {A : Option Addr} {n : Nat} {l : List Sig} (h : FRdSig w w.heap.size A n l) (hb : Below w.heap.size w w') : FRdSig w' w'.heap.size A n l := (h.below hb (Nat.le_refl _)).more hb.size
theorem sZoneOf_any (cs : List Value) (k : Keys) (salt : Int) (w : World) (h : RKeys.rd w (Lt w.heap.size) cs k) (hs : In .i64 salt) (hn : k.list.length ≤ 1099511627) :
    Calls Tryz.prog 18 #[.agg cs.toArray, .int .i64 salt] w fun e w' => e = .returned (.int .i64 (zonOf k salt)) ∧ Below w.heap.size w w' := by
  obtain ⟨A, n, c, rfl, -⟩ := RKeys_rd.1 h
  have HB := Lib.hid ((Below.refl w.heap.size w).alloc (Nat.le_refl _) (.cells #[.slice A n c, .int .i64 k.need] 26) |>.alloc (by simp) (.cells #[.int .i64 239, .int .i64 salt] 3))
  have H := Lib.hid (upK h HB.out)
  have H0 := Lib.hid (own_lit .i64 (w.alloc (.cells #[.slice A n c, .int .i64 k.need] 26)) (b := w.heap.size + 1) (cs := #[.int .i64 239, .int .i64 salt]) (ty := 3) (zs := [239, salt]) (n := 2) (lo := w.heap.size) (by simp) rfl rfl rfl (by intro z hz; simp only [List.mem_cons, List.not_mem_nil, or_false] at hz; rcases hz with rfl | rfl; exact inI64 (by omega) (by omega); exact hs) (by simp) (by simp [maxLen]))
  clear h
  unfold zonOf
  have HC := Lib.hid (sKeysInts_any [.slice A n c, .int .i64 k.need] k _ H.out (by omega))
  go_enter Tryz.func18, Tryz.ntmps18
  go_wp2_with fail
  refine HC.out.mono ?_
  rintro e w2 ⟨A2, c2, rfl, hown, hb⟩
  have HO := Lib.hid hown
  have HB2 := Lib.hid (HB.out.trans (hb.mono HB.out.size))
  have H02 := Lib.hid (H0.out.below hb (by simp))
  clear hown hb
  go_wp2_with (at_builtin; refine wp_app (k := .i64) (by unfold BI; decide) rfl _ _ rfl rfl H02.out rfl HO.out.rd (by omega) HB2.out.size ?_; intro A3 c3 w3 hown3 hgr3)
  have HO3 := Lib.hid hown3
  have HB3 := Lib.hid (HB2.out.trans (hgr3.below HB2.out.size H02.out.ge))
  clear hown3 hgr3
  go_wp2_with fail
  refine (sHash_any _ A3 _ c3 _ _ HO3.out.rd (by omega)).mono ?_
  rintro e w4 ⟨rfl, rfl⟩
  go_wp2
  go_ret
  exact ⟨rfl, HB3.out⟩
set_option maxHeartbeats 8000000 in
theorem sIsFirst_any (cs : List Value) (k : Signed) (w : World) (h : RSigned.rd w (Lt w.heap.size) cs k) (hn : totSigned k ≤ 1048576) :
    Calls Tryz.prog 17 #[.agg cs.toArray] w fun e w' => e = .returned (.bool (isFst k)) ∧ Below w.heap.size w w' := by
  obtain ⟨A0, n0, c0, A1, n1, c1, A2, n2, c2, A3, n3, c3, rfl, hh, hk0, hp0, hc3, hsg⟩ := signed_parts h
  have hln := hsg.len
  have hla := headInts_len k.head
  unfold totSigned at hn
  have hnh : totHead k.head ≤ 1048576 := by omega
  have hl2 : (headInts k.head).length ≤ 2097152 ∧ k.head.keys.list.length ≤ 1048576 := by unfold totHead totKeys at hnh; omega
  have HH := Lib.hid hh
  have HK := Lib.hid hk0
  have HS := Lib.hid hsg
  have HI := Lib.hid (fun w1 (hb : Below w.heap.size w w1) => sHeadInts_any _ k.head w1 (upH HH.out hb) hnh)
  have HD := Lib.hid (fun w1 (hb : Below w.heap.size w w1) => sIsHead_any _ k.head w1 (upH HH.out hb) hnh)
  have HZ := Lib.hid (fun w1 (hb : Below w.heap.size w w1) => sZoneOf_any _ k.head.keys k.head.prev w1 (upK HK.out hb) hp0 (by omega))
  clear h hh hk0 hp0 hsg hla
  obtain ⟨V, hV⟩ : ∃ V, V = w.alloc (.cells #[.int .i64 k.head.zone, .int .i64 k.head.epoch, .int .i64 k.head.kind, .int .i64 k.head.time, .int .i64 k.head.until_, .int .i64 k.head.count, .int .i64 k.head.root, .int .i64 k.head.prev, .slice A0 n0 c0, .int .i64 k.head.keys.need, .slice A1 n1 c1, .int .i64 k.head.heirs.need, .int .i64 k.head.wait, .slice A2 n2 c2, .int .i64 k.head.judge.need, .bool k.head.frozen, .slice A3 n3 c3] 36) := ⟨_, rfl⟩
  have HB_1 := Lib.hid (show Below w.heap.size w V from by
    rw [hV]
    exact (Below.refl _ _).alloc (by first | (simp; done) | (simp; omega)) _)
  have HX_1 := Lib.hid (show Box V (w.heap.size) [.int .i64 k.head.zone, .int .i64 k.head.epoch, .int .i64 k.head.kind, .int .i64 k.head.time, .int .i64 k.head.until_, .int .i64 k.head.count, .int .i64 k.head.root, .int .i64 k.head.prev, .slice A0 n0 c0, .int .i64 k.head.keys.need, .slice A1 n1 c1, .int .i64 k.head.heirs.need, .int .i64 k.head.wait, .slice A2 n2 c2, .int .i64 k.head.judge.need, .bool k.head.frozen, .slice A3 n3 c3] from by
    rw [hV]
    have := (Box.new w #[.int .i64 k.head.zone, .int .i64 k.head.epoch, .int .i64 k.head.kind, .int .i64 k.head.time, .int .i64 k.head.until_, .int .i64 k.head.count, .int .i64 k.head.root, .int .i64 k.head.prev, .slice A0 n0 c0, .int .i64 k.head.keys.need, .slice A1 n1 c1, .int .i64 k.head.heirs.need, .int .i64 k.head.wait, .slice A2 n2 c2, .int .i64 k.head.judge.need, .bool k.head.frozen, .slice A3 n3 c3] 36)
    simpa using this)
  have HV := Lib.hid hV
  clear hV
  go_enter Tryz.func17, Tryz.ntmps17
  have hal : Below V.heap.size V (V.alloc (.cells #[.int .i64 k.head.zone, .int .i64 k.head.epoch, .int .i64 k.head.kind, .int .i64 k.head.time, .int .i64 k.head.until_, .int .i64 k.head.count, .int .i64 k.head.root, .int .i64 k.head.prev, .slice A0 n0 c0, .int .i64 k.head.keys.need, .slice A1 n1 c1, .int .i64 k.head.heirs.need, .int .i64 k.head.wait, .slice A2 n2 c2, .int .i64 k.head.judge.need, .bool k.head.frozen] 31)) := (Below.refl _ _).alloc (Nat.le_refl _) _
  have HB_2 := Lib.hid (HB_1.out.trans (hal.mono HB_1.out.size))
  have HX_2 := Lib.hid (HX_1.out.below hal HX_1.out.lt)
  have HY_2 := Lib.hid (show Box (V.alloc (.cells #[.int .i64 k.head.zone, .int .i64 k.head.epoch, .int .i64 k.head.kind, .int .i64 k.head.time, .int .i64 k.head.until_, .int .i64 k.head.count, .int .i64 k.head.root, .int .i64 k.head.prev, .slice A0 n0 c0, .int .i64 k.head.keys.need, .slice A1 n1 c1, .int .i64 k.head.heirs.need, .int .i64 k.head.wait, .slice A2 n2 c2, .int .i64 k.head.judge.need, .bool k.head.frozen] 31)) (V.heap.size) [.int .i64 k.head.zone, .int .i64 k.head.epoch, .int .i64 k.head.kind, .int .i64 k.head.time, .int .i64 k.head.until_, .int .i64 k.head.count, .int .i64 k.head.root, .int .i64 k.head.prev, .slice A0 n0 c0, .int .i64 k.head.keys.need, .slice A1 n1 c1, .int .i64 k.head.heirs.need, .int .i64 k.head.wait, .slice A2 n2 c2, .int .i64 k.head.judge.need, .bool k.head.frozen] from Box.new V #[.int .i64 k.head.zone, .int .i64 k.head.epoch, .int .i64 k.head.kind, .int .i64 k.head.time, .int .i64 k.head.until_, .int .i64 k.head.count, .int .i64 k.head.root, .int .i64 k.head.prev, .slice A0 n0 c0, .int .i64 k.head.keys.need, .slice A1 n1 c1, .int .i64 k.head.heirs.need, .int .i64 k.head.wait, .slice A2 n2 c2, .int .i64 k.head.judge.need, .bool k.head.frozen] 31)
  obtain ⟨V2, hV2⟩ : ∃ u9, V.alloc (.cells #[.int .i64 k.head.zone, .int .i64 k.head.epoch, .int .i64 k.head.kind, .int .i64 k.head.time, .int .i64 k.head.until_, .int .i64 k.head.count, .int .i64 k.head.root, .int .i64 k.head.prev, .slice A0 n0 c0, .int .i64 k.head.keys.need, .slice A1 n1 c1, .int .i64 k.head.heirs.need, .int .i64 k.head.wait, .slice A2 n2 c2, .int .i64 k.head.judge.need, .bool k.head.frozen] 31) = u9 := ⟨_, rfl⟩
  rw [hV2] at HB_2 HX_2 HY_2
  have HV2 := Lib.hid hV2
  clear hal
  clear hV2
  go_wp2_with (first | (rw [show w.alloc (.cells #[.int .i64 k.head.zone, .int .i64 k.head.epoch, .int .i64 k.head.kind, .int .i64 k.head.time, .int .i64 k.head.until_, .int .i64 k.head.count, .int .i64 k.head.root, .int .i64 k.head.prev, .slice A0 n0 c0, .int .i64 k.head.keys.need, .slice A1 n1 c1, .int .i64 k.head.heirs.need, .int .i64 k.head.wait, .slice A2 n2 c2, .int .i64 k.head.judge.need, .bool k.head.frozen, .slice A3 n3 c3] 36) = V from HV.out.symm]; refine LD.wp_ldm LD.big_Head rfl _ rfl rfl [] [.int .i64 k.head.zone, .int .i64 k.head.epoch, .int .i64 k.head.kind, .int .i64 k.head.time, .int .i64 k.head.until_, .int .i64 k.head.count, .int .i64 k.head.root, .int .i64 k.head.prev, .slice A0 n0 c0, .int .i64 k.head.keys.need, .slice A1 n1 c1, .int .i64 k.head.heirs.need, .int .i64 k.head.wait, .slice A2 n2 c2, .int .i64 k.head.judge.need, .bool k.head.frozen] [.slice A3 n3 c3] (show Box V (w.heap.size) ([] ++ [.int .i64 k.head.zone, .int .i64 k.head.epoch, .int .i64 k.head.kind, .int .i64 k.head.time, .int .i64 k.head.until_, .int .i64 k.head.count, .int .i64 k.head.root, .int .i64 k.head.prev, .slice A0 n0 c0, .int .i64 k.head.keys.need, .slice A1 n1 c1, .int .i64 k.head.heirs.need, .int .i64 k.head.wait, .slice A2 n2 c2, .int .i64 k.head.judge.need, .bool k.head.frozen] ++ [.slice A3 n3 c3]) from HX_1.out) rfl rfl ?_) | (refine LD.wp_new LD.big_Head rfl _ _ rfl rfl rfl rfl rfl rfl ?_; rw [HV2.out]))
  obtain ⟨z2, hz2⟩ : ∃ zz : Bool, zz = (isHd k.head) := ⟨_, rfl⟩
  have Hz2 := Lib.hid hz2
  clear hz2
  obtain ⟨z7, hz7⟩ : ∃ zz : Bool, zz = ((z2) && ((k.head.epoch : Int) == (0 : Int))) := ⟨_, rfl⟩
  have Hz7 := Lib.hid hz7
  clear hz7
  obtain ⟨z12, hz12⟩ : ∃ zz : Bool, zz = ((z7) && ((k.head.kind : Int) == (1 : Int))) := ⟨_, rfl⟩
  have Hz12 := Lib.hid hz12
  clear hz12
  obtain ⟨z17, hz17⟩ : ∃ zz : Bool, zz = ((z12) && (!(k.head.frozen))) := ⟨_, rfl⟩
  have Hz17 := Lib.hid hz17
  clear hz17
  obtain ⟨z27, hz27⟩ : ∃ zz : Bool, zz = ((z17) && ((k.head.zone : Int) == (zonOf k.head.keys k.head.prev : Int))) := ⟨_, rfl⟩
  have Hz27 := Lib.hid hz27
  clear hz27
  refine RG.region (tabP [sv (.agg #[.int .i64 k.head.zone, .int .i64 k.head.epoch, .int .i64 k.head.kind, .int .i64 k.head.time, .int .i64 k.head.until_, .int .i64 k.head.count, .int .i64 k.head.root, .int .i64 k.head.prev, .slice A0 n0 c0, .int .i64 k.head.keys.need, .slice A1 n1 c1, .int .i64 k.head.heirs.need, .int .i64 k.head.wait, .slice A2 n2 c2, .int .i64 k.head.judge.need, .bool k.head.frozen]), sv (.bool (isHd k.head)), sv (.bool (z2)), swhen (z2 == true) (sv (.pointer (some ⟨V.heap.size, 1, none⟩))), swhen (z2 == true) (sv (.int .i64 (k.head.epoch))), swhen (z2 == true) (sv (.bool ((k.head.epoch : Int) == (0 : Int)))), sv (.bool ((z2) && ((k.head.epoch : Int) == (0 : Int)))), sv (.bool (z7)), swhen (z7 == true) (sv (.pointer (some ⟨V.heap.size, 2, none⟩))), swhen (z7 == true) (sv (.int .i64 (k.head.kind))), swhen (z7 == true) (sv (.bool ((k.head.kind : Int) == (1 : Int)))), sv (.bool ((z7) && ((k.head.kind : Int) == (1 : Int)))), sv (.bool (z12)), swhen (z12 == true) (sv (.pointer (some ⟨V.heap.size, 15, none⟩))), swhen (z12 == true) (sv (.bool (k.head.frozen))), swhen (z12 == true) (sv (.bool (!(k.head.frozen)))), sv (.bool ((z12) && (!(k.head.frozen)))), sv (.bool (z17)), swhen (z17 == true) (sv (.pointer (some ⟨V.heap.size, 0, none⟩))), swhen (z17 == true) (sv (.int .i64 (k.head.zone))), swhen (z17 == true) (sv (.pointer (some ⟨V.heap.size, 8, none⟩))), swhen (z17 == true) (sv (.agg #[.slice A0 n0 c0, .int .i64 k.head.keys.need])), swhen (z17 == true) (sv (.pointer (some ⟨V.heap.size, 7, none⟩))), swhen (z17 == true) (sv (.int .i64 (k.head.prev))), swhen (z17 == true) (sv (.int .i64 (zonOf k.head.keys k.head.prev))), swhen (z17 == true) (sv (.bool ((k.head.zone : Int) == (zonOf k.head.keys k.head.prev : Int)))), sv (.bool ((z17) && ((k.head.zone : Int) == (zonOf k.head.keys k.head.prev : Int)))), sv (.bool (z27)), swhen (z27 == true) (sv (.pointer (some ⟨V.heap.size, 8, none⟩))), swhen (z27 == true) (sv (.agg #[.slice A0 n0 c0, .int .i64 k.head.keys.need])), swhen (z27 == true) (sv (.agg #[.int .i64 k.head.zone, .int .i64 k.head.epoch, .int .i64 k.head.kind, .int .i64 k.head.time, .int .i64 k.head.until_, .int .i64 k.head.count, .int .i64 k.head.root, .int .i64 k.head.prev, .slice A0 n0 c0, .int .i64 k.head.keys.need, .slice A1 n1 c1, .int .i64 k.head.heirs.need, .int .i64 k.head.wait, .slice A2 n2 c2, .int .i64 k.head.judge.need, .bool k.head.frozen])), swhen (z27 == true) (snums .i64 (headInts k.head)), swhen (z27 == true) (sv (.pointer (some ⟨w.heap.size, 16, none⟩))), swhen (z27 == true) (sv (.slice A3 n3 c3)), swhen (z27 == true) (sv (.bool (isSgn k.head.keys (headInts k.head) k.sigs))), sv (.bool ((z27) && (isSgn k.head.keys (headInts k.head) k.sigs))), sv (.bool ((z27) && (isSgn k.head.keys (headInts k.head) k.sigs)))]) (by kernel_rfl) (by kernel_rfl) (tab_keep _) ?_ ?_
  · refine steps_cons ?_ (steps_cons ?_ (steps_cons ?_ (steps_cons ?_ (steps_cons ?_ (steps_cons ?_ (steps_cons ?_ (steps_cons ?_ (steps_cons ?_ (steps_cons ?_ (steps_cons ?_ (steps_cons ?_ (steps_cons ?_ (steps_cons ?_ (steps_cons ?_ (steps_cons ?_ (steps_cons ?_ (steps_cons ?_ (steps_cons ?_ (steps_cons ?_ (steps_cons ?_ (steps_cons ?_ (steps_cons ?_ (steps_cons ?_ (steps_cons ?_ (steps_cons ?_ (steps_cons ?_ (steps_cons ?_ (steps_cons ?_ (steps_cons ?_ (steps_cons ?_ (steps_cons ?_ (steps_cons ?_ (steps_cons ?_ (steps_cons ?_ (steps_cons ?_ (steps_cons ?_ (steps_nil)))))))))))))))))))))))))))))))))))))
    · intro aa ww hA K hK
      refine free rfl ?_
      have e3 : aa.tmps.getD 3 undef = .pointer (some ⟨V.heap.size, 0, none⟩) := hA.old 3 (by kernel_rfl)
      have ldHY_2 := LD.ld_run LD.big_Head (HY_2.out.keep (hA.bel.block (V.heap.size) HY_2.out.lt)) rfl
      exact gives hK (v := .agg #[.int .i64 k.head.zone, .int .i64 k.head.epoch, .int .i64 k.head.kind, .int .i64 k.head.time, .int .i64 k.head.until_, .int .i64 k.head.count, .int .i64 k.head.root, .int .i64 k.head.prev, .slice A0 n0 c0, .int .i64 k.head.keys.need, .slice A1 n1 c1, .int .i64 k.head.heirs.need, .int .i64 k.head.wait, .slice A2 n2 c2, .int .i64 k.head.judge.need, .bool k.head.frozen]) (by simp only [execOp, Act.eval, e3, ldHY_2, Sem.run_bind, Sem.run_pure, Result.andThen_ok]) rfl
    · intro aa ww hA K hK
      refine free rfl ?_
      have e6 : aa.tmps.getD 6 undef = .agg #[.int .i64 k.head.zone, .int .i64 k.head.epoch, .int .i64 k.head.kind, .int .i64 k.head.time, .int .i64 k.head.until_, .int .i64 k.head.count, .int .i64 k.head.root, .int .i64 k.head.prev, .slice A0 n0 c0, .int .i64 k.head.keys.need, .slice A1 n1 c1, .int .i64 k.head.heirs.need, .int .i64 k.head.wait, .slice A2 n2 c2, .int .i64 k.head.judge.need, .bool k.head.frozen] := hA.got 0 6 (by kernel_rfl)
      refine calls hK (by simp [Act.eval, e6, go_sem]) (HD.out ww (HB_2.out.trans ((RKA.below_drew hA.bel).mono HB_2.out.size))) ?_
      rintro e w1 ⟨rfl, hb⟩
      exact ⟨_, rfl, hb, rfl⟩
    · intro aa ww hA K hK
      refine free rfl ?_
      have e7 : aa.tmps.getD 7 undef = .bool (isHd k.head) := hA.got 1 7 (by kernel_rfl)
      exact gives hK rfl (show aa.tmps.getD 7 undef = .bool z2 from by rw [e7, Hz2.out])
    · intro aa ww hA K hK
      refine guarded (s := sv (.pointer (some ⟨V.heap.size, 1, none⟩))) rfl rfl (hA.got 2 8 (by kernel_rfl)) hK fun hB hK => ?_
      have e3 : aa.tmps.getD 3 undef = .pointer (some ⟨V.heap.size, 0, none⟩) := hA.old 3 (by kernel_rfl)
      exact gives hK (v := .pointer (some ⟨V.heap.size, 1, none⟩)) (by simp [execOp, Act.eval, e3, go_sem]) rfl
    · intro aa ww hA K hK
      refine guarded (s := sv (.int .i64 (k.head.epoch))) rfl rfl (hA.got 2 8 (by kernel_rfl)) hK fun hB hK => ?_
      have e9 : aa.tmps.getD 9 undef = .pointer (some ⟨V.heap.size, 1, none⟩) := (hA.got 3 9 (by kernel_rfl)).1 hB
      have cqHY_21 := (hA.bel.cell (p := ⟨V.heap.size, 1, none⟩) HY_2.out.lt).trans (HY_2.out.cell (j := 1) rfl)
      exact gives hK (v := .int .i64 k.head.epoch) (by simp [execOp, Act.eval, e9, cqHY_21, go_sem]) rfl
    · intro aa ww hA K hK
      refine guarded (s := sv (.bool ((k.head.epoch : Int) == (0 : Int)))) rfl rfl (hA.got 2 8 (by kernel_rfl)) hK fun hB hK => ?_
      have e10 : aa.tmps.getD 10 undef = .int .i64 (k.head.epoch) := (hA.got 4 10 (by kernel_rfl)).1 hB
      exact gives hK (v := .bool ((k.head.epoch : Int) == (0 : Int))) (by simp [execOp, Act.eval, e10, binOp, eqGuard, go_sem]) rfl
    · intro aa ww hA K hK
      refine free rfl ?_
      have e8 : aa.tmps.getD 8 undef = .bool (z2) := hA.got 2 8 (by kernel_rfl)
      rcases hq : (z2) with _ | _
      · rw [hq] at e8
        exact gives hK (v := .bool false) (by simp [execOp, Act.eval, e8, asBool, go_sem]) (show Value.bool _ = .bool _ by rw [hq]; simp)
      · have ex : aa.tmps.getD 11 undef = .bool ((k.head.epoch : Int) == (0 : Int)) := (hA.got 5 11 (by kernel_rfl)).1 (by rw [hq]; rfl)
        rw [hq] at e8
        exact gives hK (v := .bool ((k.head.epoch : Int) == (0 : Int))) (by simp [execOp, Act.eval, e8, ex, asBool, go_sem]) (show Value.bool _ = .bool _ by rw [hq]; simp)
    · intro aa ww hA K hK
      refine free rfl ?_
      have e12 : aa.tmps.getD 12 undef = .bool ((z2) && ((k.head.epoch : Int) == (0 : Int))) := hA.got 6 12 (by kernel_rfl)
      exact gives hK rfl (show aa.tmps.getD 12 undef = .bool z7 from by rw [e12, Hz7.out])
    · intro aa ww hA K hK
      refine guarded (s := sv (.pointer (some ⟨V.heap.size, 2, none⟩))) rfl rfl (hA.got 7 13 (by kernel_rfl)) hK fun hB hK => ?_
      have e3 : aa.tmps.getD 3 undef = .pointer (some ⟨V.heap.size, 0, none⟩) := hA.old 3 (by kernel_rfl)
      exact gives hK (v := .pointer (some ⟨V.heap.size, 2, none⟩)) (by simp [execOp, Act.eval, e3, go_sem]) rfl
    · intro aa ww hA K hK
      refine guarded (s := sv (.int .i64 (k.head.kind))) rfl rfl (hA.got 7 13 (by kernel_rfl)) hK fun hB hK => ?_
      have e14 : aa.tmps.getD 14 undef = .pointer (some ⟨V.heap.size, 2, none⟩) := (hA.got 8 14 (by kernel_rfl)).1 hB
      have cqHY_22 := (hA.bel.cell (p := ⟨V.heap.size, 2, none⟩) HY_2.out.lt).trans (HY_2.out.cell (j := 2) rfl)
      exact gives hK (v := .int .i64 k.head.kind) (by simp [execOp, Act.eval, e14, cqHY_22, go_sem]) rfl
    · intro aa ww hA K hK
      refine guarded (s := sv (.bool ((k.head.kind : Int) == (1 : Int)))) rfl rfl (hA.got 7 13 (by kernel_rfl)) hK fun hB hK => ?_
      have e15 : aa.tmps.getD 15 undef = .int .i64 (k.head.kind) := (hA.got 9 15 (by kernel_rfl)).1 hB
      exact gives hK (v := .bool ((k.head.kind : Int) == (1 : Int))) (by simp [execOp, Act.eval, e15, binOp, eqGuard, go_sem]) rfl
    · intro aa ww hA K hK
      refine free rfl ?_
      have e13 : aa.tmps.getD 13 undef = .bool (z7) := hA.got 7 13 (by kernel_rfl)
      rcases hq : (z7) with _ | _
      · rw [hq] at e13
        exact gives hK (v := .bool false) (by simp [execOp, Act.eval, e13, asBool, go_sem]) (show Value.bool _ = .bool _ by rw [hq]; simp)
      · have ex : aa.tmps.getD 16 undef = .bool ((k.head.kind : Int) == (1 : Int)) := (hA.got 10 16 (by kernel_rfl)).1 (by rw [hq]; rfl)
        rw [hq] at e13
        exact gives hK (v := .bool ((k.head.kind : Int) == (1 : Int))) (by simp [execOp, Act.eval, e13, ex, asBool, go_sem]) (show Value.bool _ = .bool _ by rw [hq]; simp)
    · intro aa ww hA K hK
      refine free rfl ?_
      have e17 : aa.tmps.getD 17 undef = .bool ((z7) && ((k.head.kind : Int) == (1 : Int))) := hA.got 11 17 (by kernel_rfl)
      exact gives hK rfl (show aa.tmps.getD 17 undef = .bool z12 from by rw [e17, Hz12.out])
    · intro aa ww hA K hK
      refine guarded (s := sv (.pointer (some ⟨V.heap.size, 15, none⟩))) rfl rfl (hA.got 12 18 (by kernel_rfl)) hK fun hB hK => ?_
      have e3 : aa.tmps.getD 3 undef = .pointer (some ⟨V.heap.size, 0, none⟩) := hA.old 3 (by kernel_rfl)
      exact gives hK (v := .pointer (some ⟨V.heap.size, 15, none⟩)) (by simp [execOp, Act.eval, e3, go_sem]) rfl
    · intro aa ww hA K hK
      refine guarded (s := sv (.bool (k.head.frozen))) rfl rfl (hA.got 12 18 (by kernel_rfl)) hK fun hB hK => ?_
      have e19 : aa.tmps.getD 19 undef = .pointer (some ⟨V.heap.size, 15, none⟩) := (hA.got 13 19 (by kernel_rfl)).1 hB
      have cfz := (hA.bel.cell (p := ⟨V.heap.size, 15, none⟩) HY_2.out.lt).trans (HY_2.out.cell (j := 15) rfl)
      exact gives hK (v := .bool k.head.frozen) (by simp [execOp, Act.eval, e19, cfz, go_sem]) rfl
    · intro aa ww hA K hK
      refine guarded (s := sv (.bool (!(k.head.frozen)))) rfl rfl (hA.got 12 18 (by kernel_rfl)) hK fun hB hK => ?_
      have e20 : aa.tmps.getD 20 undef = .bool (k.head.frozen) := (hA.got 14 20 (by kernel_rfl)).1 hB
      exact gives hK (v := .bool (!(k.head.frozen))) (by simp [execOp, Act.eval, e20, Op.unary, go_sem]) rfl
    · intro aa ww hA K hK
      refine free rfl ?_
      have e18 : aa.tmps.getD 18 undef = .bool (z12) := hA.got 12 18 (by kernel_rfl)
      rcases hq : (z12) with _ | _
      · rw [hq] at e18
        exact gives hK (v := .bool false) (by simp [execOp, Act.eval, e18, asBool, go_sem]) (show Value.bool _ = .bool _ by rw [hq]; simp)
      · have ex : aa.tmps.getD 21 undef = .bool (!(k.head.frozen)) := (hA.got 15 21 (by kernel_rfl)).1 (by rw [hq]; rfl)
        rw [hq] at e18
        exact gives hK (v := .bool (!(k.head.frozen))) (by simp [execOp, Act.eval, e18, ex, asBool, go_sem]) (show Value.bool _ = .bool _ by rw [hq]; simp)
    · intro aa ww hA K hK
      refine free rfl ?_
      have e22 : aa.tmps.getD 22 undef = .bool ((z12) && (!(k.head.frozen))) := hA.got 16 22 (by kernel_rfl)
      exact gives hK rfl (show aa.tmps.getD 22 undef = .bool z17 from by rw [e22, Hz17.out])
    · intro aa ww hA K hK
      refine guarded (s := sv (.pointer (some ⟨V.heap.size, 0, none⟩))) rfl rfl (hA.got 17 23 (by kernel_rfl)) hK fun hB hK => ?_
      have e3 : aa.tmps.getD 3 undef = .pointer (some ⟨V.heap.size, 0, none⟩) := hA.old 3 (by kernel_rfl)
      exact gives hK (v := .pointer (some ⟨V.heap.size, 0, none⟩)) (by simp [execOp, Act.eval, e3, go_sem]) rfl
    · intro aa ww hA K hK
      refine guarded (s := sv (.int .i64 (k.head.zone))) rfl rfl (hA.got 17 23 (by kernel_rfl)) hK fun hB hK => ?_
      have e24 : aa.tmps.getD 24 undef = .pointer (some ⟨V.heap.size, 0, none⟩) := (hA.got 18 24 (by kernel_rfl)).1 hB
      have cqHY_20 := (hA.bel.cell (p := ⟨V.heap.size, 0, none⟩) HY_2.out.lt).trans (HY_2.out.cell (j := 0) rfl)
      exact gives hK (v := .int .i64 k.head.zone) (by simp [execOp, Act.eval, e24, cqHY_20, go_sem]) rfl
    · intro aa ww hA K hK
      refine guarded (s := sv (.pointer (some ⟨V.heap.size, 8, none⟩))) rfl rfl (hA.got 17 23 (by kernel_rfl)) hK fun hB hK => ?_
      have e3 : aa.tmps.getD 3 undef = .pointer (some ⟨V.heap.size, 0, none⟩) := hA.old 3 (by kernel_rfl)
      exact gives hK (v := .pointer (some ⟨V.heap.size, 8, none⟩)) (by simp [execOp, Act.eval, e3, go_sem]) rfl
    · intro aa ww hA K hK
      refine guarded (s := sv (.agg #[.slice A0 n0 c0, .int .i64 k.head.keys.need])) rfl rfl (hA.got 17 23 (by kernel_rfl)) hK fun hB hK => ?_
      have e26 : aa.tmps.getD 26 undef = .pointer (some ⟨V.heap.size, 8, none⟩) := (hA.got 20 26 (by kernel_rfl)).1 hB
      have cqHY_28 := (hA.bel.cell (p := ⟨V.heap.size, 8, none⟩) HY_2.out.lt).trans (HY_2.out.cell (j := 8) rfl)
      have cqHY_29 := (hA.bel.cell (p := ⟨V.heap.size, 9, none⟩) HY_2.out.lt).trans (HY_2.out.cell (j := 9) rfl)
      exact gives hK (v := .agg #[.slice A0 n0 c0, .int .i64 k.head.keys.need]) (by simp [execOp, Act.eval, e26, cqHY_28, cqHY_29, go_sem]) rfl
    · intro aa ww hA K hK
      refine guarded (s := sv (.pointer (some ⟨V.heap.size, 7, none⟩))) rfl rfl (hA.got 17 23 (by kernel_rfl)) hK fun hB hK => ?_
      have e3 : aa.tmps.getD 3 undef = .pointer (some ⟨V.heap.size, 0, none⟩) := hA.old 3 (by kernel_rfl)
      exact gives hK (v := .pointer (some ⟨V.heap.size, 7, none⟩)) (by simp [execOp, Act.eval, e3, go_sem]) rfl
    · intro aa ww hA K hK
      refine guarded (s := sv (.int .i64 (k.head.prev))) rfl rfl (hA.got 17 23 (by kernel_rfl)) hK fun hB hK => ?_
      have e28 : aa.tmps.getD 28 undef = .pointer (some ⟨V.heap.size, 7, none⟩) := (hA.got 22 28 (by kernel_rfl)).1 hB
      have cqHY_27 := (hA.bel.cell (p := ⟨V.heap.size, 7, none⟩) HY_2.out.lt).trans (HY_2.out.cell (j := 7) rfl)
      exact gives hK (v := .int .i64 k.head.prev) (by simp [execOp, Act.eval, e28, cqHY_27, go_sem]) rfl
    · intro aa ww hA K hK
      refine guarded (s := sv (.int .i64 (zonOf k.head.keys k.head.prev))) rfl rfl (hA.got 17 23 (by kernel_rfl)) hK fun hB hK => ?_
      have e27 : aa.tmps.getD 27 undef = .agg #[.slice A0 n0 c0, .int .i64 k.head.keys.need] := (hA.got 21 27 (by kernel_rfl)).1 hB
      have e29 : aa.tmps.getD 29 undef = .int .i64 (k.head.prev) := (hA.got 23 29 (by kernel_rfl)).1 hB
      refine calls hK (by simp [Act.eval, e27, e29, go_sem]) (HZ.out ww (HB_2.out.trans ((RKA.below_drew hA.bel).mono HB_2.out.size))) ?_
      rintro e w1 ⟨rfl, hb⟩
      exact ⟨_, rfl, hb, rfl⟩
    · intro aa ww hA K hK
      refine guarded (s := sv (.bool ((k.head.zone : Int) == (zonOf k.head.keys k.head.prev : Int)))) rfl rfl (hA.got 17 23 (by kernel_rfl)) hK fun hB hK => ?_
      have e25 : aa.tmps.getD 25 undef = .int .i64 (k.head.zone) := (hA.got 19 25 (by kernel_rfl)).1 hB
      have e30 : aa.tmps.getD 30 undef = .int .i64 (zonOf k.head.keys k.head.prev) := (hA.got 24 30 (by kernel_rfl)).1 hB
      exact gives hK (v := .bool ((k.head.zone : Int) == (zonOf k.head.keys k.head.prev : Int))) (by simp [execOp, Act.eval, e25, e30, binOp, eqGuard, go_sem]) rfl
    · intro aa ww hA K hK
      refine free rfl ?_
      have e23 : aa.tmps.getD 23 undef = .bool (z17) := hA.got 17 23 (by kernel_rfl)
      rcases hq : (z17) with _ | _
      · rw [hq] at e23
        exact gives hK (v := .bool false) (by simp [execOp, Act.eval, e23, asBool, go_sem]) (show Value.bool _ = .bool _ by rw [hq]; simp)
      · have ex : aa.tmps.getD 31 undef = .bool ((k.head.zone : Int) == (zonOf k.head.keys k.head.prev : Int)) := (hA.got 25 31 (by kernel_rfl)).1 (by rw [hq]; rfl)
        rw [hq] at e23
        exact gives hK (v := .bool ((k.head.zone : Int) == (zonOf k.head.keys k.head.prev : Int))) (by simp [execOp, Act.eval, e23, ex, asBool, go_sem]) (show Value.bool _ = .bool _ by rw [hq]; simp)
    · intro aa ww hA K hK
      refine free rfl ?_
      have e32 : aa.tmps.getD 32 undef = .bool ((z17) && ((k.head.zone : Int) == (zonOf k.head.keys k.head.prev : Int))) := hA.got 26 32 (by kernel_rfl)
      exact gives hK rfl (show aa.tmps.getD 32 undef = .bool z27 from by rw [e32, Hz27.out])
    · intro aa ww hA K hK
      refine guarded (s := sv (.pointer (some ⟨V.heap.size, 8, none⟩))) rfl rfl (hA.got 27 33 (by kernel_rfl)) hK fun hB hK => ?_
      have e3 : aa.tmps.getD 3 undef = .pointer (some ⟨V.heap.size, 0, none⟩) := hA.old 3 (by kernel_rfl)
      exact gives hK (v := .pointer (some ⟨V.heap.size, 8, none⟩)) (by simp [execOp, Act.eval, e3, go_sem]) rfl
    · intro aa ww hA K hK
      refine guarded (s := sv (.agg #[.slice A0 n0 c0, .int .i64 k.head.keys.need])) rfl rfl (hA.got 27 33 (by kernel_rfl)) hK fun hB hK => ?_
      have e34 : aa.tmps.getD 34 undef = .pointer (some ⟨V.heap.size, 8, none⟩) := (hA.got 28 34 (by kernel_rfl)).1 hB
      have cqHY_28 := (hA.bel.cell (p := ⟨V.heap.size, 8, none⟩) HY_2.out.lt).trans (HY_2.out.cell (j := 8) rfl)
      have cqHY_29 := (hA.bel.cell (p := ⟨V.heap.size, 9, none⟩) HY_2.out.lt).trans (HY_2.out.cell (j := 9) rfl)
      exact gives hK (v := .agg #[.slice A0 n0 c0, .int .i64 k.head.keys.need]) (by simp [execOp, Act.eval, e34, cqHY_28, cqHY_29, go_sem]) rfl
    · intro aa ww hA K hK
      refine guarded (s := sv (.agg #[.int .i64 k.head.zone, .int .i64 k.head.epoch, .int .i64 k.head.kind, .int .i64 k.head.time, .int .i64 k.head.until_, .int .i64 k.head.count, .int .i64 k.head.root, .int .i64 k.head.prev, .slice A0 n0 c0, .int .i64 k.head.keys.need, .slice A1 n1 c1, .int .i64 k.head.heirs.need, .int .i64 k.head.wait, .slice A2 n2 c2, .int .i64 k.head.judge.need, .bool k.head.frozen])) rfl rfl (hA.got 27 33 (by kernel_rfl)) hK fun hB hK => ?_
      have e3 : aa.tmps.getD 3 undef = .pointer (some ⟨V.heap.size, 0, none⟩) := hA.old 3 (by kernel_rfl)
      have ldHY_2 := LD.ld_run LD.big_Head (HY_2.out.keep (hA.bel.block (V.heap.size) HY_2.out.lt)) rfl
      exact gives hK (v := .agg #[.int .i64 k.head.zone, .int .i64 k.head.epoch, .int .i64 k.head.kind, .int .i64 k.head.time, .int .i64 k.head.until_, .int .i64 k.head.count, .int .i64 k.head.root, .int .i64 k.head.prev, .slice A0 n0 c0, .int .i64 k.head.keys.need, .slice A1 n1 c1, .int .i64 k.head.heirs.need, .int .i64 k.head.wait, .slice A2 n2 c2, .int .i64 k.head.judge.need, .bool k.head.frozen]) (by simp only [execOp, Act.eval, e3, ldHY_2, Sem.run_bind, Sem.run_pure, Result.andThen_ok]) rfl
    · intro aa ww hA K hK
      refine guarded (s := snums .i64 (headInts k.head)) rfl rfl (hA.got 27 33 (by kernel_rfl)) hK fun hB hK => ?_
      have e36 : aa.tmps.getD 36 undef = .agg #[.int .i64 k.head.zone, .int .i64 k.head.epoch, .int .i64 k.head.kind, .int .i64 k.head.time, .int .i64 k.head.until_, .int .i64 k.head.count, .int .i64 k.head.root, .int .i64 k.head.prev, .slice A0 n0 c0, .int .i64 k.head.keys.need, .slice A1 n1 c1, .int .i64 k.head.heirs.need, .int .i64 k.head.wait, .slice A2 n2 c2, .int .i64 k.head.judge.need, .bool k.head.frozen] := (hA.got 30 36 (by kernel_rfl)).1 hB
      refine calls hK (by simp [Act.eval, e36, go_sem]) (HI.out ww (HB_2.out.trans ((RKA.below_drew hA.bel).mono HB_2.out.size))) ?_
      rintro e w1 ⟨A9, c9, rfl, hop, hb⟩
      exact ⟨_, rfl, hb, snums_own hop⟩
    · intro aa ww hA K hK
      refine guarded (s := sv (.pointer (some ⟨w.heap.size, 16, none⟩))) rfl rfl (hA.got 27 33 (by kernel_rfl)) hK fun hB hK => ?_
      have e1 : aa.tmps.getD 1 undef = .pointer (some ⟨w.heap.size, 0, none⟩) := hA.old 1 (by kernel_rfl)
      exact gives hK (v := .pointer (some ⟨w.heap.size, 16, none⟩)) (by simp [execOp, Act.eval, e1, go_sem]) rfl
    · intro aa ww hA K hK
      refine guarded (s := sv (.slice A3 n3 c3)) rfl rfl (hA.got 27 33 (by kernel_rfl)) hK fun hB hK => ?_
      have e38 : aa.tmps.getD 38 undef = .pointer (some ⟨w.heap.size, 16, none⟩) := (hA.got 32 38 (by kernel_rfl)).1 hB
      have cls := (hA.bel.cell (p := ⟨w.heap.size, 16, none⟩) HX_2.out.lt).trans (HX_2.out.cell (j := 16) rfl)
      exact gives hK (v := .slice A3 n3 c3) (by simp [execOp, Act.eval, e38, cls, go_sem]) rfl
    · intro aa ww hA K hK
      refine guarded (s := sv (.bool (isSgn k.head.keys (headInts k.head) k.sigs))) rfl rfl (hA.got 27 33 (by kernel_rfl)) hK fun hB hK => ?_
      have e35 : aa.tmps.getD 35 undef = .agg #[.slice A0 n0 c0, .int .i64 k.head.keys.need] := (hA.got 29 35 (by kernel_rfl)).1 hB
      obtain ⟨A37, c37, e37, hc37, h37⟩ := (hA.got 31 37 (by kernel_rfl)).1 hB
      have e39 : aa.tmps.getD 39 undef = .slice A3 n3 c3 := (hA.got 33 39 (by kernel_rfl)).1 hB
      refine calls hK (by simp [Act.eval, e35, e37, e39, go_sem]) (sIsSigned_any _ k.head.keys A37 _ c37 (headInts k.head) A3 n3 c3 k.sigs ww (upK HK.out (HB_2.out.trans ((RKA.below_drew hA.bel).mono HB_2.out.size))) h37 hc37 (upF HS.out (HB_2.out.trans ((RKA.below_drew hA.bel).mono HB_2.out.size))) hc3 (by omega) (by omega) (by omega)) ?_
      rintro e w1 ⟨rfl, hb⟩
      exact ⟨_, rfl, hb, rfl⟩
    · intro aa ww hA K hK
      refine free rfl ?_
      have e33 : aa.tmps.getD 33 undef = .bool (z27) := hA.got 27 33 (by kernel_rfl)
      rcases hq : (z27) with _ | _
      · rw [hq] at e33
        exact gives hK (v := .bool false) (by simp [execOp, Act.eval, e33, asBool, go_sem]) (show Value.bool _ = .bool _ by rw [hq]; simp)
      · have ex : aa.tmps.getD 40 undef = .bool (isSgn k.head.keys (headInts k.head) k.sigs) := (hA.got 34 40 (by kernel_rfl)).1 (by rw [hq]; rfl)
        rw [hq] at e33
        exact gives hK (v := .bool (isSgn k.head.keys (headInts k.head) k.sigs)) (by simp [execOp, Act.eval, e33, ex, asBool, go_sem]) (show Value.bool _ = .bool _ by rw [hq]; simp)
    · intro aa ww hA K hK
      refine free rfl ?_
      exact gives hK rfl (hA.got 35 41 (by kernel_rfl))
  · intro a1 w1 hb hd hsz hold hgot
    have e2 : a1.tmps.getD 2 undef = .bool ((z27) && (isSgn k.head.keys (headInts k.head) k.sigs)) := hgot 36 2 (by kernel_rfl)
    rename_i K9 hK9
    refine hK9 a1 w1 (wp_ret ?_)
    exact bodyPost_ret (v := .bool ((z27) && (isSgn k.head.keys (headInts k.head) k.sigs))) (by simp [results, Tryz.results17, go_sem]; rw [← Array.getD_eq_getD_getElem?]; exact e2) (hd.trans rfl) ⟨by rw [Hz27.out, Hz17.out, Hz12.out, Hz7.out, Hz2.out]; unfold isFst; simp only [Bool.and_assoc], HB_2.out.trans ((RKA.below_drew hb).mono HB_2.out.size)⟩
theorem signed_own {w : World} {k : Head} {l : List Sig} {A0 A1 A2 A3 : Option Addr} {n0 c0 n1 c1 n2 c2 n3 c3 lo mid hi : Nat} (h : OwnI RHead w lo mid [.int .i64 k.zone, .int .i64 k.epoch, .int .i64 k.kind, .int .i64 k.time, .int .i64 k.until_, .int .i64 k.count, .int .i64 k.root, .int .i64 k.prev, .slice A0 n0 c0, .int .i64 k.keys.need, .slice A1 n1 c1, .int .i64 k.heirs.need, .int .i64 k.wait, .slice A2 n2 c2, .int .i64 k.judge.need, .bool k.frozen] k) (g : Owns RSig w mid hi A3 n3 c3 l) (d : lo ≤ mid ∧ mid ≤ hi) : OwnI RSigned w lo hi [.int .i64 k.zone, .int .i64 k.epoch, .int .i64 k.kind, .int .i64 k.time, .int .i64 k.until_, .int .i64 k.count, .int .i64 k.root, .int .i64 k.prev, .slice A0 n0 c0, .int .i64 k.keys.need, .slice A1 n1 c1, .int .i64 k.heirs.need, .int .i64 k.wait, .slice A2 n2 c2, .int .i64 k.judge.need, .bool k.frozen, .slice A3 n3 c3] ⟨k, l⟩ := by
  obtain ⟨F, a, u, e⟩ := h
  obtain ⟨G, b, u', e'⟩ := g.has
  have g1 := part_cons (lo := lo) u e (show G.Nodup ∧ ∀ b, b ∈ G → mid ≤ b ∧ b < hi from ⟨u', e'⟩) (Nat.le_refl _) (Nat.le_refl _) (by omega) (by omega)
  exact ⟨F ++ G, RSigned_set.2 ⟨_, _, _, _, _, _, _, _, _, A3, n3, c3, F, G, rfl, rfl, a, b⟩, g1.1, g1.2⟩
set_option maxHeartbeats 16000000 in
theorem sSignHead_any (Ah : Option Addr) (nh ch : Nat) (held : List Int) (ks : List Value) (q : Keys) (cs : List Value) (k : Head) (w : World) (hh : Rd .i64 w w.heap.size Ah nh held) (hq : RKeys.rd w (Lt w.heap.size) ks q) (h : RHead.rd w (Lt w.heap.size) cs k) (hn : totHead k ≤ 1048576) (hm : totKeys q ≤ 1048576) (hnh : nh ≤ 1099511627776) :
    Calls Tryz.prog 98 #[.slice Ah nh ch, .agg ks.toArray, .agg cs.toArray] w fun e w' => ∃ cs', e = .returned (.agg (List.toArray cs')) ∧ OwnI RSigned w' w.heap.size w'.heap.size cs' (signHd held q k) ∧ Below w.heap.size w w' := by
  obtain ⟨A0, n0, c0, A1, n1, c1, A2, n2, c2, rfl, -⟩ := head_parts h
  obtain ⟨qA, qn, qc, rfl, -⟩ := RKeys_rd.1 hq
  have hla := headInts_len k
  have hl2 : (headInts k).length ≤ 2097152 := by unfold totHead totKeys at hn; omega
  have hql : q.list.length ≤ 1048576 := hm
  have HH := Lib.hid h
  have HQ := Lib.hid hq
  have HE := Lib.hid hh
  clear h hq hh hla
  obtain ⟨V, hV⟩ : ∃ V, V = ((w.alloc (.cells #[.slice qA qn qc, .int .i64 q.need] 26)).alloc (.cells #[.int .i64 k.zone, .int .i64 k.epoch, .int .i64 k.kind, .int .i64 k.time, .int .i64 k.until_, .int .i64 k.count, .int .i64 k.root, .int .i64 k.prev, .slice A0 n0 c0, .int .i64 k.keys.need, .slice A1 n1 c1, .int .i64 k.heirs.need, .int .i64 k.wait, .slice A2 n2 c2, .int .i64 k.judge.need, .bool k.frozen] 31)).alloc (.cells #[.int .i64 0, .int .i64 0, .int .i64 0, .int .i64 0, .int .i64 0, .int .i64 0, .int .i64 0, .int .i64 0, .slice none 0 0, .int .i64 0, .slice none 0 0, .int .i64 0, .int .i64 0, .slice none 0 0, .int .i64 0, .bool false, .slice none 0 0] 36) := ⟨_, rfl⟩
  have HB_1 := Lib.hid (show Below w.heap.size w V from by
    rw [hV]
    exact (((Below.refl _ _).alloc (by first | (simp; done) | (simp; omega)) _).alloc (by first | (simp; done) | (simp; omega)) _).alloc (by first | (simp; done) | (simp; omega)) _)
  have HX_1 := Lib.hid (show Box V (w.heap.size) [.slice qA qn qc, .int .i64 q.need] from by
    rw [hV]
    have := (((Box.new w #[.slice qA qn qc, .int .i64 q.need] 26).alloc (.cells #[.int .i64 k.zone, .int .i64 k.epoch, .int .i64 k.kind, .int .i64 k.time, .int .i64 k.until_, .int .i64 k.count, .int .i64 k.root, .int .i64 k.prev, .slice A0 n0 c0, .int .i64 k.keys.need, .slice A1 n1 c1, .int .i64 k.heirs.need, .int .i64 k.wait, .slice A2 n2 c2, .int .i64 k.judge.need, .bool k.frozen] 31)).alloc (.cells #[.int .i64 0, .int .i64 0, .int .i64 0, .int .i64 0, .int .i64 0, .int .i64 0, .int .i64 0, .int .i64 0, .slice none 0 0, .int .i64 0, .slice none 0 0, .int .i64 0, .int .i64 0, .slice none 0 0, .int .i64 0, .bool false, .slice none 0 0] 36))
    simpa using this)
  have HZ_1 := Lib.hid (show Box V (w.heap.size + 1) [.int .i64 k.zone, .int .i64 k.epoch, .int .i64 k.kind, .int .i64 k.time, .int .i64 k.until_, .int .i64 k.count, .int .i64 k.root, .int .i64 k.prev, .slice A0 n0 c0, .int .i64 k.keys.need, .slice A1 n1 c1, .int .i64 k.heirs.need, .int .i64 k.wait, .slice A2 n2 c2, .int .i64 k.judge.need, .bool k.frozen] from by
    rw [hV]
    have := ((Box.new (w.alloc (.cells #[.slice qA qn qc, .int .i64 q.need] 26)) #[.int .i64 k.zone, .int .i64 k.epoch, .int .i64 k.kind, .int .i64 k.time, .int .i64 k.until_, .int .i64 k.count, .int .i64 k.root, .int .i64 k.prev, .slice A0 n0 c0, .int .i64 k.keys.need, .slice A1 n1 c1, .int .i64 k.heirs.need, .int .i64 k.wait, .slice A2 n2 c2, .int .i64 k.judge.need, .bool k.frozen] 31).alloc (.cells #[.int .i64 0, .int .i64 0, .int .i64 0, .int .i64 0, .int .i64 0, .int .i64 0, .int .i64 0, .int .i64 0, .slice none 0 0, .int .i64 0, .slice none 0 0, .int .i64 0, .int .i64 0, .slice none 0 0, .int .i64 0, .bool false, .slice none 0 0] 36))
    simpa using this)
  have HR_1 := Lib.hid (show Box V (w.heap.size + 1 + 1) [.int .i64 0, .int .i64 0, .int .i64 0, .int .i64 0, .int .i64 0, .int .i64 0, .int .i64 0, .int .i64 0, .slice none 0 0, .int .i64 0, .slice none 0 0, .int .i64 0, .int .i64 0, .slice none 0 0, .int .i64 0, .bool false, .slice none 0 0] from by
    rw [hV]
    have := (Box.new ((w.alloc (.cells #[.slice qA qn qc, .int .i64 q.need] 26)).alloc (.cells #[.int .i64 k.zone, .int .i64 k.epoch, .int .i64 k.kind, .int .i64 k.time, .int .i64 k.until_, .int .i64 k.count, .int .i64 k.root, .int .i64 k.prev, .slice A0 n0 c0, .int .i64 k.keys.need, .slice A1 n1 c1, .int .i64 k.heirs.need, .int .i64 k.wait, .slice A2 n2 c2, .int .i64 k.judge.need, .bool k.frozen] 31)) #[.int .i64 0, .int .i64 0, .int .i64 0, .int .i64 0, .int .i64 0, .int .i64 0, .int .i64 0, .int .i64 0, .slice none 0 0, .int .i64 0, .slice none 0 0, .int .i64 0, .int .i64 0, .slice none 0 0, .int .i64 0, .bool false, .slice none 0 0] 36)
    simpa using this)
  have HV := Lib.hid hV
  have hsV : w.heap.size + 3 ≤ V.heap.size ∧ V.heap.size ≤ w.heap.size + 3 := by rw [hV]; simp
  clear hV
  go_enter Tryz.func98, Tryz.ntmps98
  go_wp2_with fail
  rw [show ((w.alloc (.cells #[.slice qA qn qc, .int .i64 q.need] 26)).alloc (.cells #[.int .i64 k.zone, .int .i64 k.epoch, .int .i64 k.kind, .int .i64 k.time, .int .i64 k.until_, .int .i64 k.count, .int .i64 k.root, .int .i64 k.prev, .slice A0 n0 c0, .int .i64 k.keys.need, .slice A1 n1 c1, .int .i64 k.heirs.need, .int .i64 k.wait, .slice A2 n2 c2, .int .i64 k.judge.need, .bool k.frozen] 31)).alloc (.cells #[.int .i64 0, .int .i64 0, .int .i64 0, .int .i64 0, .int .i64 0, .int .i64 0, .int .i64 0, .int .i64 0, .slice none 0 0, .int .i64 0, .slice none 0 0, .int .i64 0, .int .i64 0, .slice none 0 0, .int .i64 0, .bool false, .slice none 0 0] 36) = V from HV.out.symm]
  refine wp_region_held (S := (fun w9 => w9.rangeAt (w.heap.size) 0 [.slice qA qn qc, .int .i64 q.need] ∧ w9.rangeAt (w.heap.size + 1) 0 [.int .i64 k.zone, .int .i64 k.epoch, .int .i64 k.kind, .int .i64 k.time, .int .i64 k.until_, .int .i64 k.count, .int .i64 k.root, .int .i64 k.prev, .slice A0 n0 c0, .int .i64 k.keys.need, .slice A1 n1 c1, .int .i64 k.heirs.need, .int .i64 k.wait, .slice A2 n2 c2, .int .i64 k.judge.need, .bool k.frozen])) (by kernel_rfl) ?_
  change wpAnyH _ _ _ _ _ _ _ _ (World.drew _)
  have hdr : Below V.heap.size V V.drew := (Below.refl _ _).drew
  have HB_2 := Lib.hid (HB_1.out.trans (hdr.mono HB_1.out.size))
  have HX_2 := Lib.hid (HX_1.out.below hdr HX_1.out.lt)
  have HZ_2 := Lib.hid (HZ_1.out.below hdr HZ_1.out.lt)
  have HR_2 := Lib.hid (HR_1.out.below hdr HR_1.out.lt)
  clear hdr
  have hsd : V.drew.heap.size = V.heap.size := rfl
  refine wpAnyH_take (i := 0) rfl (by kernel_rfl) (by kernel_rfl) (by kernel_rfl) (fun _ _ _ h => h) (LD.yl LD.big_Head (by rfl) _ rfl rfl (fun w9 h9 => h9.2) rfl) (⟨LD.box_range HX_2.out, LD.box_range HZ_2.out⟩) ?_
  simp only [Act.put, List.getElem_toArray, List.getElem_cons_zero, List.getElem_cons_succ, List.setIfInBounds_toArray, List.set_cons_succ, List.set_cons_zero]
  refine wpAnyH_take (i := 2) (v := .slice Ah nh ch) rfl (by kernel_rfl) (by kernel_rfl) (by kernel_rfl) (fun _ _ _ h => h) (Or.inl ⟨by rfl, fun w h => ?_⟩) (⟨LD.box_range HX_2.out, LD.box_range HZ_2.out⟩) ?_
  · clear h
    go_simp
  refine wpAnyH_take (i := 3) rfl (by kernel_rfl) (by kernel_rfl) (by kernel_rfl) (fun _ _ _ h => h) (LD.yl LD.big_Keys (by rfl) _ rfl rfl (fun w9 h9 => h9.1) rfl) (⟨LD.box_range HX_2.out, LD.box_range HZ_2.out⟩) ?_
  simp only [Act.put, List.getElem_toArray, List.getElem_cons_zero, List.getElem_cons_succ, List.setIfInBounds_toArray, List.set_cons_succ, List.set_cons_zero]
  refine wpAnyH_take (i := 4) rfl (by kernel_rfl) (by kernel_rfl) (by kernel_rfl) (fun _ _ _ h => h) (LD.yl LD.big_Head (by rfl) _ rfl rfl (fun w9 h9 => h9.2) rfl) (⟨LD.box_range HX_2.out, LD.box_range HZ_2.out⟩) ?_
  simp only [Act.put, List.getElem_toArray, List.getElem_cons_zero, List.getElem_cons_succ, List.setIfInBounds_toArray, List.set_cons_succ, List.set_cons_zero]
  refine wpAnyH_ready (rs := [1]) (by kernel_rfl) (by simp) ?_
  refine AllReadyH.cons rfl (fun K hK => ?_) ?_
  · skip
    go_simp
    go_at_call 135
    refine (l13Copy_any _ k _ (upH HH.out HB_2.out) hn).mono ?_
    rintro e W1 ⟨cs9, rfl, ho, hb⟩
    obtain ⟨dA0, dn0, dc0, dA1, dn1, dc1, dA2, dn2, dc2, rfl⟩ := RHead_shape ho.rd
    have HB_3 := Lib.hid (HB_2.out.trans (hb.mono HB_2.out.size))
    have HX_3 := Lib.hid (HX_2.out.below hb HX_2.out.lt)
    have HZ_3 := Lib.hid (HZ_2.out.below hb HZ_2.out.lt)
    have HR_3 := Lib.hid (HR_2.out.below hb HR_2.out.lt)
    have hsW1 := hb.size
    have HP_3 := Lib.hid (show OwnI RHead W1 (V.drew.heap.size) (W1.heap.size) [.int .i64 k.zone, .int .i64 k.epoch, .int .i64 k.kind, .int .i64 k.time, .int .i64 k.until_, .int .i64 k.count, .int .i64 k.root, .int .i64 k.prev, .slice dA0 dn0 dc0, .int .i64 k.keys.need, .slice dA1 dn1 dc1, .int .i64 k.heirs.need, .int .i64 k.wait, .slice dA2 dn2 dc2, .int .i64 k.judge.need, .bool k.frozen] k ∧ (W1.heap.size) ≤ W1.heap.size ∧ (w.heap.size + 3) ≤ (V.drew.heap.size) from ⟨ho, Nat.le_refl _, by omega⟩)
    clear ho hb
    go_simp
    refine hK.out _ _ (⟨LD.box_range HX_3.out, LD.box_range HZ_3.out⟩) (fun _ => ?_)
    clear hK K
    refine wpAnyH_ready (rs := [5]) (by kernel_rfl) (by simp) ?_
    refine AllReadyH.cons rfl (fun K hK => ?_) ?_
    · skip
      go_simp
      go_at_call 55
      refine (sHeadInts_any _ k _ (upH HH.out HB_3.out) hn).mono ?_
      rintro e W2 ⟨IA, ic, rfl, ho, hb⟩
      have HB_4 := Lib.hid (HB_3.out.trans (hb.mono HB_3.out.size))
      have HX_4 := Lib.hid (HX_3.out.below hb HX_3.out.lt)
      have HZ_4 := Lib.hid (HZ_3.out.below hb HZ_3.out.lt)
      have HR_4 := Lib.hid (HR_3.out.below hb HR_3.out.lt)
      have HP_4 := Lib.hid (show OwnI RHead W2 (V.drew.heap.size) (W1.heap.size) [.int .i64 k.zone, .int .i64 k.epoch, .int .i64 k.kind, .int .i64 k.time, .int .i64 k.until_, .int .i64 k.count, .int .i64 k.root, .int .i64 k.prev, .slice dA0 dn0 dc0, .int .i64 k.keys.need, .slice dA1 dn1 dc1, .int .i64 k.heirs.need, .int .i64 k.wait, .slice dA2 dn2 dc2, .int .i64 k.judge.need, .bool k.frozen] k ∧ (W1.heap.size) ≤ W2.heap.size ∧ (w.heap.size + 3) ≤ (V.drew.heap.size) from ⟨HP_3.out.1.below hb HP_3.out.2.1, Nat.le_trans HP_3.out.2.1 hb.size, HP_3.out.2.2⟩)
      have hsW2 := hb.size
      have hcI := ho.cap.1
      have HI := Lib.hid ho.rd
      clear ho hb
      go_simp
      refine hK.out _ _ (⟨LD.box_range HX_4.out, LD.box_range HZ_4.out⟩) (fun _ => ?_)
      clear hK K
      refine wpAnyH_ready (rs := [6]) (by kernel_rfl) (by simp) ?_
      refine AllReadyH.cons rfl (fun K hK => ?_) ?_
      · skip
        go_simp
        go_at_call 133
        refine (sSignBy_any Ah nh ch held _ q IA _ ic (headInts k) _ ((HE.out.below HB_4.out (Nat.le_refl _)).more HB_4.out.size) (upK HQ.out HB_4.out) HI.out (by omega) (by omega) hnh).mono ?_
        rintro e W3 ⟨SA, sc, rfl, ho, hb⟩
        have HB_5 := Lib.hid (HB_4.out.trans (hb.mono HB_4.out.size))
        have HX_5 := Lib.hid (HX_4.out.below hb HX_4.out.lt)
        have HZ_5 := Lib.hid (HZ_4.out.below hb HZ_4.out.lt)
        have HR_5 := Lib.hid (HR_4.out.below hb HR_4.out.lt)
        have HP_5 := Lib.hid (show OwnI RHead W3 (V.drew.heap.size) (W1.heap.size) [.int .i64 k.zone, .int .i64 k.epoch, .int .i64 k.kind, .int .i64 k.time, .int .i64 k.until_, .int .i64 k.count, .int .i64 k.root, .int .i64 k.prev, .slice dA0 dn0 dc0, .int .i64 k.keys.need, .slice dA1 dn1 dc1, .int .i64 k.heirs.need, .int .i64 k.wait, .slice dA2 dn2 dc2, .int .i64 k.judge.need, .bool k.frozen] k ∧ (W1.heap.size) ≤ W3.heap.size ∧ (w.heap.size + 3) ≤ (V.drew.heap.size) from ⟨HP_4.out.1.below hb HP_4.out.2.1, Nat.le_trans HP_4.out.2.1 hb.size, HP_4.out.2.2⟩)
        have hsW3 := hb.size
        have HSG := Lib.hid ho
        have hsg := ho.len
        clear hb ho
        go_simp
        refine hK.out _ _ (⟨LD.box_range HX_5.out, LD.box_range HZ_5.out⟩) (fun _ => ?_)
        clear hK K
        refine wpAnyH_ready (rs := [7]) (by kernel_rfl) (by simp) ?_
        refine AllReadyH.cons rfl (fun K hK => ?_) ?_
        · skip
          go_simp
          refine hK.out _ _ (⟨LD.box_range HX_5.out, LD.box_range HZ_5.out⟩) (fun _ => ?_)
          clear hK K
          refine wpAnyH_ready (rs := [8]) (by kernel_rfl) (by simp) ?_
          refine AllReadyH.cons rfl (fun K hK => ?_) ?_
          · skip
            obtain ⟨VF, hVF⟩ : ∃ u9, puts W3 (w.heap.size + 1 + 1) 0 [.int .i64 k.zone, .int .i64 k.epoch, .int .i64 k.kind, .int .i64 k.time, .int .i64 k.until_, .int .i64 k.count, .int .i64 k.root, .int .i64 k.prev, .slice dA0 dn0 dc0, .int .i64 k.keys.need, .slice dA1 dn1 dc1, .int .i64 k.heirs.need, .int .i64 k.wait, .slice dA2 dn2 dc2, .int .i64 k.judge.need, .bool k.frozen, .slice SA (signBy held q.list (headInts k)).length sc] = u9 := ⟨_, rfl⟩
            have HB_6 := Lib.hid (pt_bel hVF HB_5.out (show w.heap.size ≤ (w.heap.size + 1 + 1) by omega))
            have HX_6 := Lib.hid (pt_box hVF HX_5.out (show (w.heap.size) ≠ (w.heap.size + 1 + 1) by omega))
            have HZ_6 := Lib.hid (pt_box hVF HZ_5.out (show (w.heap.size + 1) ≠ (w.heap.size + 1 + 1) by omega))
            have HR_6 := Lib.hid (show Box VF (w.heap.size + 1 + 1) [.int .i64 k.zone, .int .i64 k.epoch, .int .i64 k.kind, .int .i64 k.time, .int .i64 k.until_, .int .i64 k.count, .int .i64 k.root, .int .i64 k.prev, .slice dA0 dn0 dc0, .int .i64 k.keys.need, .slice dA1 dn1 dc1, .int .i64 k.heirs.need, .int .i64 k.wait, .slice dA2 dn2 dc2, .int .i64 k.judge.need, .bool k.frozen, .slice SA (signBy held q.list (headInts k)).length sc] from (show Box VF (w.heap.size + 1 + 1) ([] ++ [.int .i64 k.zone, .int .i64 k.epoch, .int .i64 k.kind, .int .i64 k.time, .int .i64 k.until_, .int .i64 k.count, .int .i64 k.root, .int .i64 k.prev, .slice dA0 dn0 dc0, .int .i64 k.keys.need, .slice dA1 dn1 dc1, .int .i64 k.heirs.need, .int .i64 k.wait, .slice dA2 dn2 dc2, .int .i64 k.judge.need, .bool k.frozen, .slice SA (signBy held q.list (headInts k)).length sc] ++ []) from pt_mid hVF (show Box W3 (w.heap.size + 1 + 1) ([] ++ [.int .i64 0, .int .i64 0, .int .i64 0, .int .i64 0, .int .i64 0, .int .i64 0, .int .i64 0, .int .i64 0, .slice none 0 0, .int .i64 0, .slice none 0 0, .int .i64 0, .int .i64 0, .slice none 0 0, .int .i64 0, .bool false, .slice none 0 0] ++ []) from HR_5.out) rfl rfl))
            have HP_6 := Lib.hid (pt_own hVF HP_5.out (show (w.heap.size + 1 + 1) < (w.heap.size + 3) by omega))
            have HVF := Lib.hid hVF
            clear hVF
            have hsF : W3.heap.size ≤ VF.heap.size := by rw [← HVF.out]; exact Nat.le_of_eq (puts_size _ _).symm
            have HSF := Lib.hid (HSG.out.keep (w' := VF) fun i _ h1 _ => by rw [← HVF.out]; exact puts_keep (by omega) _ _)
            refine LD.op_stV LD.big_Signed _ _ rfl rfl rfl HR_5.out rfl (by decide) rfl HVF.out ?_
            simp only [Act.put, List.getElem_toArray, List.getElem_cons_zero, List.getElem_cons_succ, List.setIfInBounds_toArray, List.set_cons_succ, List.set_cons_zero]
            refine hK.out _ _ (⟨LD.box_range HX_6.out, LD.box_range HZ_6.out⟩) (fun _ => ?_)
            clear hK K
            refine wpAnyH_done (by kernel_rfl) ?_ _
            go_wp2
            refine bodyPost_ret (v := .agg #[.int .i64 k.zone, .int .i64 k.epoch, .int .i64 k.kind, .int .i64 k.time, .int .i64 k.until_, .int .i64 k.count, .int .i64 k.root, .int .i64 k.prev, .slice dA0 dn0 dc0, .int .i64 k.keys.need, .slice dA1 dn1 dc1, .int .i64 k.heirs.need, .int .i64 k.wait, .slice dA2 dn2 dc2, .int .i64 k.judge.need, .bool k.frozen, .slice SA (signBy held q.list (headInts k)).length sc]) (LD.res_cell LD.big_Signed Tryz.results98 rfl HR_6.out rfl) rfl ⟨[.int .i64 k.zone, .int .i64 k.epoch, .int .i64 k.kind, .int .i64 k.time, .int .i64 k.until_, .int .i64 k.count, .int .i64 k.root, .int .i64 k.prev, .slice dA0 dn0 dc0, .int .i64 k.keys.need, .slice dA1 dn1 dc1, .int .i64 k.heirs.need, .int .i64 k.wait, .slice dA2 dn2 dc2, .int .i64 k.judge.need, .bool k.frozen, .slice SA (signBy held q.list (headInts k)).length sc], rfl, ?_, HB_6.out⟩
            unfold signHd
            exact (signed_own (HP_6.out.1.wide (Nat.le_refl _) hsW2) HSF.out ⟨by omega, by omega⟩).wide (by omega) (by omega)
          exact AllReadyH.nil
        exact AllReadyH.nil
      exact AllReadyH.nil
    exact AllReadyH.nil
  exact AllReadyH.nil
end Go.Proofs.YthhmhcmlbpdlbaaGreat.C14S
namespace Go.Proofs.YthhmhcmlbpdlbaaGreat.C14E
open Go.RowKit Mem MemS Rep Flat R06 R07 R13 R14 M03 M06 M07 M13 M14 C01 C03S C03H C03D C06S C07S C13S C14S BX RG RGS
open RKA hiding inI64
set_option linter.unusedVariables false
set_option linter.unusedSimpArgs false
set_option maxRecDepth 100000
theorem take_ne {l l' : List Sig} {j : Nat} (h : j < l.length) (h' : j < l'.length) (hne : l.getD j default ≠ l'.getD j default) : l ≠ l' := fun e => hne (by rw [e])
theorem take_step {l l' : List Sig} {j : Nat} (h : j < l.length) (h' : j < l'.length) (e : l.take j = l'.take j) (he : l.getD j default = l'.getD j default) : l.take (j + 1) = l'.take (j + 1) := by
  rw [List.take_add_one, List.take_add_one, e]
  simp only [List.getD, List.getElem?_eq_getElem h, List.getElem?_eq_getElem h', Option.getD_some] at he
  simp [List.getElem?_eq_getElem h, List.getElem?_eq_getElem h', he]
theorem sig_ne {x y : Sig} (h : x ≠ y) : x.key = y.key → ¬ x.tag = y.tag := by
  rcases x with ⟨a, b⟩
  rcases y with ⟨c, d⟩
  simp only [ne_eq, Sig.mk.injEq, not_and] at h
  exact h
end Go.Proofs.YthhmhcmlbpdlbaaGreat.C14E
