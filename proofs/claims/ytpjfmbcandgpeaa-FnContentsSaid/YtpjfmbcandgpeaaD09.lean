/- Chapter 9: the drawing functions of contents. -/
import Derived.Test.YtpjfmbcandgpeaaD08
import Derived.Test.YtpjfmbcandgpeaaC09SP
namespace Go.Proofs.Ytpjfmbcandgpeaa.D09
open Go.RowKit Mem MemS M02 C01 C02 Rep RepA RW R08 Q08 M04 M05 M08 M09 C04I C08S C09S C09SP D01 D02 D04 D05 D08 SL RKA
set_option linter.unusedVariables false
set_option maxRecDepth 100000
def SmL (m : Nat) (l : List Entry) : Prop := l.length ≤ m ∧ ∀ e ∈ l, SmE e
theorem smL_tot {m : Nat} {l : List Entry} (h : SmL m l) : totR totEntry l ≤ m * 1048577 := by
  have key : ∀ l : List Entry, (∀ e ∈ l, SmE e) → totR totEntry l ≤ l.length * 1048577 := by
    intro l
    induction l with
    | nil => intro _; simp [totR]
    | cons z r ih =>
      intro hz
      have h1 := ih fun e he => hz e (by simp [he])
      have h2 := sm_tot (hz z (by simp))
      have h3 : totR totEntry (z :: r) = totEntry z + 1 + totR totEntry r := by unfold totR; simp; omega
      rw [h3, List.length_cons]
      omega
  have h1 := key l h.2
  exact Nat.le_trans h1 (Nat.mul_le_mul_right 1048577 h.1)
theorem smL_mono {m m' : Nat} {l : List Entry} (h : SmL m l) (hm : m ≤ m') : SmL m' l := ⟨Nat.le_trans h.1 hm, h.2⟩
theorem mem_putStep {e z x : Entry} {st : List Entry × Bool} (h : x ∈ (putStep e st z).1) : x ∈ st.1 ∨ x = e ∨ x = z := by
  unfold putStep at h
  rcases List.mem_append.1 h with h | h
  · rcases List.mem_append.1 h with h | h
    · exact .inl h
    · split at h
      · exact .inr (.inl (by simpa using h))
      · simp at h
  · split at h
    · simp at h
    · exact .inr (.inr (by simpa using h))
theorem mem_putAll {e x : Entry} {l : List Entry} (h : x ∈ putAll e l) : x = e ∨ x ∈ l := by
  have key : ∀ (l : List Entry) (st : List Entry × Bool), x ∈ (l.foldl (putStep e) st).1 → x ∈ st.1 ∨ x = e ∨ x ∈ l := by
    intro l
    induction l with
    | nil => intro st h; exact .inl h
    | cons z r ih =>
      intro st h
      rw [List.foldl_cons] at h
      rcases ih _ h with h | h | h
      · rcases mem_putStep h with h | h | h
        · exact .inl h
        · exact .inr (.inl h)
        · exact .inr (.inr (by simp [h]))
      · exact .inr (.inl h)
      · exact .inr (.inr (by simp [h]))
  unfold putAll at h
  rcases List.mem_append.1 h with h | h
  · rcases key l _ h with h | h | h
    · simp at h
    · exact .inl h
    · exact .inr h
  · split at h
    · simp at h
    · exact .inl (by simpa using h)
theorem smL_put {m : Nat} {l : List Entry} {e : Entry} (h : SmL m l) (he : SmE e) : SmL (m + 1) (putE l e).1 := by
  unfold putE
  split
  · exact ⟨Nat.le_trans (putAll_len e l) (Nat.succ_le_succ h.1), fun x hx => by
      rcases mem_putAll hx with rfl | hx
      · exact he
      · exact h.2 x hx⟩
  · exact smL_mono h (Nat.le_succ _)
theorem smL_snoc {m : Nat} {l : List Entry} {e : Entry} (h : SmL m l) (he : SmE e) : SmL (m + 1) (l ++ [e]) :=
  ⟨by simpa using h.1, fun x hx => by
    rcases List.mem_append.1 hx with hx | hx
    · exact h.2 x hx
    · rw [List.mem_singleton.1 hx]
      exact he⟩
theorem kept_then {g : Nat} {w w1 w2 : World} (h : Kept g w w1) (hb : Below w.heap.size w1 w2) : Kept g w w2 :=
  ⟨hb.os.trans h.os, hb.tape.trans h.tape, hb.output.trans h.output, Nat.le_trans h.size hb.size, fun k hk hg => (hb.block k hk).trans (h.block k hk hg)⟩
theorem cur_then {w w' : World} {B g K : Nat} (h : Cur w B g) (hb : Below K w w') (hg : g < K) : Cur w' B g := by
  obtain ⟨h0, A, n, c, i, k, hh, h1, h2, h3, h4⟩ := h
  exact ⟨h0, A, n, c, i, k, (hb.block g hg).trans hh, h1, h2, h3, h4.below (hb.mono (by omega))⟩
theorem box_set {w : World} {b : Nat} {vs : List Value} (h : Box w b vs) {j : Nat} (hj : j < vs.length) (v : Value) : Box (w.setCell ⟨b, j, none⟩ v) b (vs.set j v) := by
  have hu : vs[j]? = some (vs[j]'hj) := List.getElem?_eq_getElem hj
  refine ⟨fun {i u} hi => ?_, fun {i u} hi => ?_, by first | (simp; done) | (simp; exact h.lt)⟩
  · rw [List.getElem?_set] at hi
    by_cases e : j = i
    · subst e
      simp [hj] at hi
      subst hi
      exact World.cell?_setCell_same _ _ _ (h.cell hu)
    · rw [if_neg e] at hi
      rw [World.cell?_setCell_other _ _ _ _ (fun h9 => e (by injection h9))]
      exact h.cell hi
  · rw [World.frozen?_setCell]
    have hi' : i < (vs.set j v).length := (List.getElem?_eq_some_iff.1 hi).1
    exact h.warm (List.getElem?_eq_getElem (show i < vs.length by simpa using hi'))
/-- a draw of contents -/
def DrL (m B g : Nat) (w : World) (e : Ending) (w' : World) : Prop :=
  ∃ A n c l, e = .returned (.slice A n c) ∧ SmL m l ∧ FOwnEntry w' w.heap.size w'.heap.size A n c l ∧ Cur w' B g ∧ Kept g w w'
set_option maxHeartbeats 1000000 in
theorem l9List_any (w : World) (B g : Nat) (hc : Cur w B g) : Calls Try.prog 67 #[.pointer (some ⟨g, 0, none⟩)] w (DrL 6 B g w) := by
  have hgl := hc.lt
  have HC0 := Lib.hid (hc.alloc (.cells #[] 27))
  have HK0 := Lib.hid ((Kept.refl g w).alloc (.cells #[] 27))
  have HO0 := Lib.hid (show FOwnEntry (w.alloc (.cells #[] 27)) w.heap.size (w.heap.size + 1) (some ⟨w.heap.size, 0, none⟩) 0 0 [] from by
    have h := Owns.lit0 (lo := w.heap.size) REntry w (Nat.le_refl _)
    rw [show REntry.ty = 27 from rfl] at h
    exact h)
  clear hc
  go_enter Try.func67, Try.ntmps67
  go_wp2_with fail
  refine (l1Below_any 7 _ B g HC0.out).mono ?_
  rintro e w1 ⟨v, ⟨x, hx0, hx1, rfl⟩, rfl, hc1, hk1⟩
  obtain ⟨i0, rfl⟩ : ∃ i0 : Nat, x = i0 := ⟨x.toNat, by omega⟩
  have hi0 : i0 ≤ 6 := by omega
  have HC1 := Lib.hid hc1
  have HK1 := Lib.hid (HK0.out.trans hk1)
  have HO1 := Lib.hid ((HO0.out.keep (w' := w1) fun i h0 h1 h2 => hk1.block i h0 (by omega)).wide (Nat.le_refl _) (show w.heap.size + 1 ≤ w1.heap.size from by have := hk1.size; simpa using this))
  clear hc1 hk1 hx0 hx1
  go_wp2
  go_loopw [3, 4] (fun o v wr => ∃ (i : Nat) (A1 : Option Addr) (n1 c1 : Nat) (l1 : List Entry), i ≤ 6 ∧ v = .int .i64 i ∧ o = .slice A1 n1 c1 ∧ FOwnEntry wr w.heap.size wr.heap.size A1 n1 c1 l1 ∧ SmL (6 - i) l1 ∧ Cur wr B g ∧ Kept g w wr) (fun _ v _ => (intOf v).toNat)
  case atStart => exact ⟨i0, _, 0, 0, [], hi0, rfl, rfl, HO1.out, ⟨by simp, by simp⟩, HC1.out, HK1.out⟩
  case round =>
    obtain ⟨i, A1, n1, c1, l1, hi, rfl, rfl, ho, hsl, hc, hk⟩ := hrel
    have HC := Lib.hid hc
    have HK := Lib.hid hk
    have HO := Lib.hid ho
    have HS := Lib.hid hsl
    clear hc hk ho hsl
    by_cases h0 : 0 < i
    · have hi1 : (0 : Int) < i := by omega
      go_wp2_with fail
      refine (l8Entry_any wr B g HC.out).mono ?_
      rintro e w2 ⟨Ae, ne, ce, kl, kk, kv, kp, rfl, hsm, hown, hc2, hk2⟩
      have HO2 := Lib.hid ((HO.out.keep (w' := w2) fun i h0 h1 h2 => hk2.block i h0 (by omega)).wide (Nat.le_refl _) hk2.size)
      have hwr : w.heap.size ≤ w2.heap.size := by have := HK.out.size; have := hk2.size; omega
      have HP := Lib.hid (sPutEntry_any A1 n1 c1 l1 [.string kl, .int .i64 kk, .int .i64 kv, .slice Ae ne ce] ⟨kl, kk, kv, kp⟩ w2 HO2.out.rd (sm_rd (k := ⟨kl, kk, kv, kp⟩) (hown.top) hsm) (by have := smL_tot HS.out; omega) (by have := sm_tot hsm; omega))
      have HSM := Lib.hid hsm
      have HC2 := Lib.hid hc2
      have HK2 := Lib.hid (HK.out.trans hk2)
      have HW := Lib.hid hwr
      clear hsm hown hc2 hk2 hwr
      go_wp2_with fail
      refine HP.out.mono ?_
      rintro e w3 ⟨A3, c3, rfl, ho3, hb3⟩
      have HO3 := Lib.hid (ho3.base HW.out)
      have HC3 := Lib.hid (HC2.out.below hb3)
      have HK3 := Lib.hid (HK2.out.trans (Kept.of_below hb3))
      clear ho3 hb3
      go_wp2
      go_roundw
      case rel => exact ⟨i - 1, A3, _, c3, (putE l1 ⟨kl, kk, kv, kp⟩).1, by omega, by go_num, rfl, HO3.out, smL_mono (smL_put HS.out HSM.out) (by omega), HC3.out, HK3.out⟩
      case measure => simp [intOf]; omega
    · obtain rfl : i = 0 := by omega
      go_wp2
      go_ret
      exact ⟨A1, n1, c1, l1, rfl, smL_mono HS.out (by omega), HO.out, HC.out, HK.out⟩
def lits : List ByteArray := [⟨#[99]⟩, ⟨#[100]⟩, ⟨#[101]⟩, ⟨#[102]⟩, ⟨#[103]⟩, ⟨#[104]⟩, ⟨#[105]⟩, ⟨#[106]⟩, ⟨#[107]⟩, ⟨#[108]⟩, ⟨#[109]⟩, ⟨#[110]⟩]
theorem lits_rd (w : World) : RdS (w.alloc (.cells #[.string ⟨#[99]⟩, .string ⟨#[100]⟩, .string ⟨#[101]⟩, .string ⟨#[102]⟩, .string ⟨#[103]⟩, .string ⟨#[104]⟩, .string ⟨#[105]⟩, .string ⟨#[106]⟩, .string ⟨#[107]⟩, .string ⟨#[108]⟩, .string ⟨#[109]⟩, .string ⟨#[110]⟩] 9)) (w.heap.size + 1) (some ⟨w.heap.size, 0, none⟩) 12 lits := by
  refine ⟨rfl, fun z hz => ?_, fun _ => ⟨_, _, rfl, Nat.lt_succ_self _, fun j hj => ?_⟩⟩
  · have : z.size ≤ 1 := by
      simp only [lits, List.mem_cons, List.not_mem_nil, or_false] at hz
      rcases hz with rfl | rfl | rfl | rfl | rfl | rfl | rfl | rfl | rfl | rfl | rfl | rfl <;> decide
    unfold InS maxLen
    omega
  · rw [Nat.zero_add, World.cell?_alloc_at _ _ _ _ rfl]
    have : j = 0 ∨ j = 1 ∨ j = 2 ∨ j = 3 ∨ j = 4 ∨ j = 5 ∨ j = 6 ∨ j = 7 ∨ j = 8 ∨ j = 9 ∨ j = 10 ∨ j = 11 := by omega
    rcases this with rfl | rfl | rfl | rfl | rfl | rfl | rfl | rfl | rfl | rfl | rfl | rfl <;> rfl
theorem lits_sm {j : Nat} (hj : j < 12) : SmE ⟨lits.getD j .empty, 1, 1, []⟩ := by
  refine ⟨?_, RKA.inI64 (by simp) (by simp), RKA.inI64 (by simp) (by simp), by simp, by simp⟩
  have : j = 0 ∨ j = 1 ∨ j = 2 ∨ j = 3 ∨ j = 4 ∨ j = 5 ∨ j = 6 ∨ j = 7 ∨ j = 8 ∨ j = 9 ∨ j = 10 ∨ j = 11 := by omega
  rcases this with rfl | rfl | rfl | rfl | rfl | rfl | rfl | rfl | rfl | rfl | rfl | rfl <;> decide
set_option maxHeartbeats 2000000 in
theorem l9Any_any (w : World) (B g : Nat) (hc : Cur w B g) : Calls Try.prog 43 #[.pointer (some ⟨g, 0, none⟩)] w (DrL 18 B g w) := by
  have hgl := hc.lt
  go_enter Try.func43, Try.ntmps43
  go_wp2_with fail
  refine (l9List_any w B g hc).mono ?_
  rintro e w1 ⟨A, n, c, l, rfl, hsl, hown, hc1, hk1⟩
  have HS1 := Lib.hid hsl
  have HO1 := Lib.hid hown
  have HC1 := Lib.hid hc1
  have HK1 := Lib.hid hk1
  have HNL := Lib.hid hown.len
  clear hsl hown hc1 hk1 hc
  go_wp2_with fail
  refine (l1Below_any 10 _ B g HC1.out).mono ?_
  rintro e w2 ⟨v, ⟨x, hx0, hx1, rfl⟩, rfl, hc2, hk2⟩
  have HO2 := Lib.hid ((HO1.out.keep (w' := w2) fun i h0 h1 h2 => hk2.block i h0 (by omega)).wide (Nat.le_refl _) hk2.size)
  have HC2 := Lib.hid hc2
  have HK2 := Lib.hid (HK1.out.trans hk2)
  have hw2 : w.heap.size ≤ w2.heap.size := by have := HK1.out.size; have := hk2.size; omega
  have hn6 : n ≤ 6 := by have := HS1.out.1; have := HNL.out; omega
  clear hc2 hk2 hx1
  by_cases hx : x = 0
  · subst hx
    go_wp2_with fail
    refine (l8Any_any w2 B g HC2.out).mono ?_
    rintro e w3 ⟨Ae, ne, ce, kl, kk, kv, kp, rfl, hsm, hown, hc3, hk3⟩
    have HO3 := Lib.hid (HO2.out.keep (w' := w3) fun i h0 h1 h2 => hk3.block i h0 (by omega))
    have HZ3 := Lib.hid (show OwnI REntry w3 w2.heap.size w3.heap.size [.string kl, .int .i64 kk, .int .i64 kv, .slice Ae ne ce] ⟨kl, kk, kv, kp⟩ from REntry_own.2 ⟨Ae, ne, ce, rfl, by have := hsm.1; unfold InS maxLen; omega, hsm.2.1, hsm.2.2.1, hown.base (Nat.le_succ _)⟩)
    have HSM := Lib.hid hsm
    have HC3 := Lib.hid hc3
    have HK3 := Lib.hid (HK2.out.trans hk3)
    have hw3 : w.heap.size ≤ w3.heap.size := by have := hk3.size; omega
    have HN1 := Lib.hid (show n + 1 ≤ 68719476736 by omega)
    have HW2 := Lib.hid hw2
    have HW3 := Lib.hid hw3
    clear hsm hown hc3 hk3
    go_wp2_with (at_builtin; refine wp_pushR (st := 24) (mid := w2.heap.size) (hi := w3.heap.size) (lo := w.heap.size) REntry tiEntry rfl _ _ rfl rfl HO3.out rfl HZ3.out HN1.out HW2.out HW3.out ?_; intro A4 c4 w4 hown4 hgr4)
    have HO4 := Lib.hid hown4
    have HB4 := Lib.hid (hgr4.below (B := w.heap.size) hw3 HO3.out.ge)
    have HC4 := Lib.hid (cur_then HC3.out HB4.out hgl)
    have HK4 := Lib.hid (kept_then HK3.out HB4.out)
    clear hown4 hgr4
    go_wp2
    go_ret
    exact ⟨A4, n + 1, c4, l ++ [⟨kl, kk, kv, kp⟩], rfl, smL_mono (smL_snoc HS1.out HSM.out) (by omega), HO4.out, HC4.out, HK4.out⟩
  · by_cases hy : x = 1
    · subst hy
      have HL0 := Lib.hid (lits_rd w2)
      obtain ⟨V, hV⟩ : ∃ V, V = w2.alloc (.cells #[.string ⟨#[99]⟩, .string ⟨#[100]⟩, .string ⟨#[101]⟩, .string ⟨#[102]⟩, .string ⟨#[103]⟩, .string ⟨#[104]⟩, .string ⟨#[105]⟩, .string ⟨#[106]⟩, .string ⟨#[107]⟩, .string ⟨#[108]⟩, .string ⟨#[109]⟩, .string ⟨#[110]⟩] 9) := ⟨_, rfl⟩
      have hVs : V.heap.size = w2.heap.size + 1 := by rw [hV]; simp
      have HOV := Lib.hid (show FOwnEntry V w.heap.size V.heap.size A n c l from by rw [hV]; exact (HO2.out.alloc _).wide (Nat.le_refl _) (by simp))
      have HCV := Lib.hid (show Cur V B g from by rw [hV]; exact HC2.out.alloc _)
      have HKV := Lib.hid (show Kept g w V from by rw [hV]; exact HK2.out.alloc _)
      rw [← hV] at HL0
      have HL := Lib.hid (show RdS V V.heap.size (some ⟨w2.heap.size, 0, none⟩) 12 lits from by rw [hVs]; exact HL0.out)
      have HVV := Lib.hid hV
      have hwV : w.heap.size ≤ V.heap.size := by omega
      have HWV := Lib.hid hwV
      clear hV HL0 hVs hwV
      go_wp2
      rw [← HVV.out]
      go_loopw [3, 21] (fun o v wr => ∃ (j : Nat) (A1 : Option Addr) (n1 c1 : Nat) (l1 : List Entry), j ≤ 12 ∧ v = .int .i64 j ∧ o = .slice A1 n1 c1 ∧ FOwnEntry wr w.heap.size wr.heap.size A1 n1 c1 l1 ∧ SmL (6 + j) l1 ∧ Below V.heap.size V wr) (fun _ v _ => 12 - (intOf v).toNat)
      case atStart => exact ⟨0, A, n, c, l, by omega, rfl, rfl, HOV.out, HS1.out, Below.refl _ _⟩
      case round =>
        obtain ⟨j, A1, n1, c1, l1, hj, rfl, rfl, ho, hsl, hb⟩ := hrel
        have HB := Lib.hid hb
        have HO := Lib.hid ho
        have HS := Lib.hid hsl
        clear hb ho hsl
        by_cases hjn : j < 12
        · obtain ⟨b, off, e, hlt, hcj⟩ := (HL.out.below HB.out (Nat.le_refl _)).cell_at hjn
          injection e with e
          injection e with e1 e2 _
          subst e1 e2
          have hsm := lits_sm hjn
          rw [Nat.zero_add] at hcj
          generalize lits.getD j .empty = s at hcj hsm
          have HSM := Lib.hid hsm
          have HVE := Lib.hid (sValueEntry_any s 1 wr (by have := hsm.1; simp only at this; unfold InS maxLen; omega) (RKA.inI64 (by omega) (by omega)))
          have hj1 : (j : Int) < 12 := by omega
          clear hsm
          go_wp2_with fail
          refine HVE.out.mono ?_
          rintro e w3 ⟨cs, rfl, hown3, hb3⟩
          have HB3 := Lib.hid (HB.out.trans (hb3.mono HB.out.size))
          have HO3 := Lib.hid ((HO.out.below hb3 (Nat.le_refl _)).wide (Nat.le_refl _) hb3.size)
          have HP := Lib.hid (sPutEntry_any A1 n1 c1 l1 cs ⟨s, 1, 1, []⟩ w3 HO3.out.rd hown3.rd (by have := smL_tot HS.out; omega) (by have := sm_tot HSM.out; omega))
          obtain ⟨Ae, ne, ce, rfl, _⟩ := REntry_own.1 hown3
          clear hown3 hb3 hcj
          go_wp2_with fail
          refine HP.out.mono ?_
          rintro e w4 ⟨A4, c4, rfl, ho4, hb4⟩
          have HO4 := Lib.hid (ho4.base (Nat.le_trans HWV.out HB3.out.size))
          have HB4 := Lib.hid (HB3.out.trans (hb4.mono HB3.out.size))
          clear ho4 hb4
          go_wp2
          go_roundw
          case rel => exact ⟨j + 1, A4, _, c4, (putE l1 ⟨s, 1, 1, []⟩).1, by omega, by go_num, rfl, HO4.out, smL_put HS.out HSM.out, HB4.out⟩
          case measure => simp [intOf]; omega
        · obtain rfl : j = 12 := by omega
          go_wp2
          go_ret
          exact ⟨A1, n1, c1, l1, rfl, HS.out, HO.out, HCV.out.below HB.out, HKV.out.trans (Kept.of_below HB.out)⟩
    · have hx2 : ¬ x = 0 := hx
      have hb0 : (x == 0) = false := beq_eq_false_iff_ne.2 hx
      have hb1 : (x == 1) = false := beq_eq_false_iff_ne.2 hy
      go_wp2
      go_ret
      exact ⟨A, n, c, l, rfl, smL_mono HS1.out (by omega), HO2.out, HC2.out, HK2.out⟩
def DrFE (w : World) (e : Ending) (w' : World) : Prop :=
  ∃ A n c l s, e = .returned (.tuple #[.slice A n c, .string s]) ∧ SmL 18 l ∧ ByteArray.size s ≤ 16 ∧ FOwnEntry w' w.heap.size w'.heap.size A n c l ∧ Below w.heap.size w w'
theorem drawFindEntry_any (w : World) (A : Option Addr) (n c : Nat) (hn : n ≤ maxLen) (hr : BRow w w.heap.size A n) :
    Calls Try.prog 58 #[.slice A n c] w (DrFE w) := by
  go_enter Try.func58, Try.ntmps58
  go_wp2_with fail
  refine (l1New_any w A n c hn hr).mono ?_
  rintro e w1 ⟨g, rfl, hc1, hb1⟩
  have hgB := hc1.1
  have HC1 := Lib.hid hc1
  have HB1 := Lib.hid hb1
  clear hc1 hb1
  go_wp2_with fail
  refine (l9Any_any _ _ g HC1.out).mono ?_
  rintro e w2 ⟨Al, nl, cl, l, rfl, hsl, hown, hc2, hk2⟩
  have HS := Lib.hid hsl
  have HO := Lib.hid hown
  have HC2 := Lib.hid hc2
  have HB2 := Lib.hid (HB1.out.trans (hk2.below hgB HB1.out.size))
  have hg1 := HC1.out.lt
  clear hsl hown hc2 hk2
  go_wp2_with fail
  refine (l4Any_any _ _ g HC2.out).mono ?_
  rintro e w3 ⟨v, ⟨s, hs, rfl⟩, rfl, hc3, hk3⟩
  have HO3 := Lib.hid ((HO.out.keep (w' := w3) fun i h0 h1 h2 => hk3.block i h0 (by omega)).wide HB1.out.size hk3.size)
  have HB3 := Lib.hid (HB2.out.trans (hk3.below hgB HB2.out.size))
  clear hc3 hk3
  go_wp2
  refine bodyPost_ret (v := .tuple #[.slice Al nl cl, .string s]) (by simp [results, Try.results58, go_sem]) rfl ⟨Al, nl, cl, l, s, rfl, HS.out, hs, HO3.out, HB3.out⟩
theorem drawAlikeIn_any (w : World) (A : Option Addr) (n c : Nat) (hn : n ≤ maxLen) (hr : BRow w w.heap.size A n) :
    Calls Try.prog 20 #[.slice A n c] w (DrFE w) := by
  go_enter Try.func20, Try.ntmps20
  go_wp2_with fail
  refine (drawFindEntry_any w A n c hn hr).mono ?_
  rintro e w1 ⟨Al, nl, cl, l, s, rfl, hsl, hs, hown, hb⟩
  have HO := Lib.hid hown
  have HB := Lib.hid hb
  clear hown hb
  go_wp2
  refine bodyPost_ret (v := .tuple #[.slice Al nl cl, .string s]) (by simp [results, Try.results20, go_sem]) rfl ⟨Al, nl, cl, l, s, rfl, hsl, hs, HO.out, HB.out⟩
def DrPE (w : World) (e : Ending) (w' : World) : Prop :=
  ∃ A n c l Ae ne ce kl kk kv kp, e = .returned (.tuple #[.slice A n c, .agg #[.string kl, .int .i64 kk, .int .i64 kv, .slice Ae ne ce]]) ∧ SmL 18 l ∧ SmE ⟨kl, kk, kv, kp⟩ ∧ FOwnEntry w' w.heap.size w'.heap.size A n c l ∧ OwnS w' w.heap.size w'.heap.size Ae ne ce kp ∧ Below w.heap.size w w'
theorem drawPutEntry_any (w : World) (A : Option Addr) (n c : Nat) (hn : n ≤ maxLen) (hr : BRow w w.heap.size A n) :
    Calls Try.prog 12 #[.slice A n c] w (DrPE w) := by
  have HB0 := Lib.hid ((Below.refl w.heap.size w).alloc (Nat.le_refl _) (.cells #[.string ⟨#[]⟩, .int .i64 0, .int .i64 0, .slice none 0 0] 27))
  obtain ⟨V, hV⟩ : ∃ V, w.alloc (.cells #[.string ⟨#[]⟩, .int .i64 0, .int .i64 0, .slice none 0 0] 27) = V := ⟨_, rfl⟩
  rw [hV] at HB0
  have HR := Lib.hid ((hr.below HB0.out).more HB0.out.size)
  have hVs : V.heap.size = w.heap.size + 1 := by rw [← hV]; simp
  have HX0 := Lib.hid (show Box V w.heap.size [.string ⟨#[]⟩, .int .i64 0, .int .i64 0, .slice none 0 0] by rw [← hV]; exact Box.new w #[.string ⟨#[]⟩, .int .i64 0, .int .i64 0, .slice none 0 0] 27)
  have HV := Lib.hid hV
  have HVs := Lib.hid hVs
  clear hr hV hVs
  go_enter Try.func12, Try.ntmps12
  go_wp2_with fail
  rw [HV.out]
  refine (l1New_any _ A n c hn HR.out).mono ?_
  rintro e w1 ⟨g, rfl, hc1, hb1⟩
  have hgB := hc1.1
  have hgl := hc1.lt
  have hwg : w.heap.size < g := by have := HVs.out; omega
  have HC1 := Lib.hid hc1
  have HB1 := Lib.hid (HB0.out.trans (hb1.mono HB0.out.size))
  have HX1 := Lib.hid (HX0.out.below hb1 HX0.out.lt)
  clear hc1 hb1
  go_wp2_with fail
  refine (l9Any_any _ _ g HC1.out).mono ?_
  rintro e w2 ⟨Al, nl, cl, l, rfl, hsl, hown, hc2, hk2⟩
  have HS := Lib.hid hsl
  have HO := Lib.hid hown
  have HC2 := Lib.hid hc2
  have HB2 := Lib.hid (HB1.out.trans (hk2.below (by omega) HB1.out.size))
  have HX2 := Lib.hid (bxK HX1.out hk2 (by omega))
  have hw12 := hk2.size
  have hw1 : w.heap.size < w1.heap.size := HX1.out.lt
  clear hsl hown hc2 hk2
  go_wp2_with fail
  refine (l8Any_any _ _ g HC2.out).mono ?_
  rintro e w3 ⟨Ae, ne, ce, kl, kk, kv, kp, rfl, hk, hown3, hc3, hk3⟩
  have hx3 := bxK HX2.out hk3 (by omega)
  have HO3 := Lib.hid ((HO.out.keep (w' := w3) fun i h0 h1 h2 => hk3.block i h0 (by omega)).wide (Nat.le_refl _) hk3.size)
  have HZ3 := Lib.hid hown3
  have HB3 := Lib.hid (HB2.out.trans (hk3.below (by omega) HB2.out.size))
  have HSM := Lib.hid hk
  have x0 := hx3.cell (j := 0) rfl
  have x1 := hx3.cell (j := 1) rfl
  have x2 := hx3.cell (j := 2) rfl
  have x3 := hx3.cell (j := 3) rfl
  have y0 := hx3.warm (j := 0) rfl
  have y1 := hx3.warm (j := 1) rfl
  have y2 := hx3.warm (j := 2) rfl
  have y3 := hx3.warm (j := 3) rfl
  have hz3 := hk3.size
  have HX4 := Lib.hid (box_set (box_set (box_set (box_set hx3 (j := 0) (by simp) (.string kl)) (j := 1) (by simp) (.int .i64 kk)) (j := 2) (by simp) (.int .i64 kv)) (j := 3) (by simp) (.slice Ae ne ce))
  clear hown3 hc3 hk3 hx3 hk
  go_wp2
  have c0 := HX4.out.cell (j := 0) rfl
  have c1 := HX4.out.cell (j := 1) rfl
  have c2 := HX4.out.cell (j := 2) rfl
  have c3 := HX4.out.cell (j := 3) rfl
  refine bodyPost_ret (v := .tuple #[.slice Al nl cl, .agg #[.string kl, .int .i64 kk, .int .i64 kv, .slice Ae ne ce]]) (by simp [results, Try.results12, go_sem, c0, c1, c2, c3]) rfl ⟨Al, nl, cl, l, Ae, ne, ce, kl, kk, kv, kp, rfl, HS.out, HSM.out, ?_, ?_, ?_⟩
  · refine Owns.base (lo := w1.heap.size) (Owns.top (hi := w3.heap.size) ?_) (by omega)
    repeat refine Owns.store ?_ _ (.inl (by omega))
    exact HO3.out
  · refine OwnS.base (lo := w2.heap.size + 1) (OwnS.top (hi := w3.heap.size) ?_) (by omega)
    repeat refine OwnS.store ?_ _ (.inl (by simp; omega))
    exact HZ3.out
  · repeat' refine Below.setCell ?_ ?_ _
    all_goals first | exact HB3.out | (simp; done) | (simp; omega)
end Go.Proofs.Ytpjfmbcandgpeaa.D09
