/- The drawing functions with all that is known of what they return; those of chapter 11. -/
import Derived.Test.YtbhhifoofapgiaaGreatD09
import Derived.Test.YtbhhifoofapgiaaGreatR11
import Derived.Test.YtbhhifoofapgiaaGreatC11S
namespace Go.Proofs.YtbhhifoofapgiaaGreat.D11
set_option linter.unusedVariables false
set_option maxRecDepth 100000
open Go.RowKit Mem MemS M02 M04 M05 M08 M09 M09F C01 C02 C02B D01 D02 SL C04I C04S C05S C08S C09S C09SP Rep RepA RW R08 Q08 D04 D05 D08 RKA
open D09 hiding kept_then
def StrQ (Q : ByteArray → Prop) (v : Value) : Prop := ∃ s : ByteArray, Q s ∧ v = .string s
def IRowQ (Q : Int → Prop) (w : World) (g : Nat) (A : Option Addr) (n : Nat) : Prop :=
  ∃ b off, A = some ⟨b, off, none⟩ ∧ b < w.heap.size ∧ b ≠ g ∧ ∀ j, j < n → ∃ x : Int, w.cell? ⟨b, off + j, none⟩ = some (.int .i64 x) ∧ Q x
theorem IRowQ.kept {Q : Int → Prop} {w w' : World} {g : Nat} {A : Option Addr} {n : Nat} (h : IRowQ Q w g A n) (hk : Kept g w w') : IRowQ Q w' g A n := by
  obtain ⟨b, off, e, hlt, hne, hc⟩ := h
  exact ⟨b, off, e, Nat.lt_of_lt_of_le hlt hk.size, hne, fun j hj => by
    obtain ⟨x, hx, hw⟩ := hc j hj
    exact ⟨x, (World.cell?_of_block (w := w) (a := ⟨b, off + j, none⟩) (hk.block b hlt hne)).trans hx, hw⟩⟩
def SRowQ (Q : ByteArray → Prop) (w : World) (g : Nat) (A : Option Addr) (n : Nat) : Prop :=
  ∃ b off, A = some ⟨b, off, none⟩ ∧ b < w.heap.size ∧ b ≠ g ∧ ∀ j, j < n → ∃ s : ByteArray, w.cell? ⟨b, off + j, none⟩ = some (.string s) ∧ Q s
theorem SRowQ.kept {Q : ByteArray → Prop} {w w' : World} {g : Nat} {A : Option Addr} {n : Nat} (h : SRowQ Q w g A n) (hk : Kept g w w') : SRowQ Q w' g A n := by
  obtain ⟨b, off, e, hlt, hne, hc⟩ := h
  exact ⟨b, off, e, Nat.lt_of_lt_of_le hlt hk.size, hne, fun j hj => by
    obtain ⟨x, hx, hw⟩ := hc j hj
    exact ⟨x, (World.cell?_of_block (w := w) (a := ⟨b, off + j, none⟩) (hk.block b hlt hne)).trans hx, hw⟩⟩
theorem IRowQ.new {Q : Int → Prop} {w : World} {g : Nat} {cs : Array Value} {t : TypeId} (hg : g < w.heap.size) {n : Nat} (h : ∀ v ∈ cs.toList, ∃ x : Int, v = .int .i64 x ∧ Q x) (hn : n = cs.size) : IRowQ Q (w.alloc (.cells cs t)) g (some ⟨w.heap.size, 0, none⟩) n := by
  subst hn
  refine ⟨w.heap.size, 0, rfl, by simp, by omega, fun j hj => ?_⟩
  have hm : cs[j] ∈ cs.toList := by rw [← Array.getElem_toList]; exact List.getElem_mem _
  obtain ⟨x, h1, h3⟩ := h _ hm
  exact ⟨x, by rw [World.cell?_alloc_mark]; simp [hj, h1], h3⟩
theorem SRowQ.new {Q : ByteArray → Prop} {w : World} {g : Nat} {cs : Array Value} {t : TypeId} (hg : g < w.heap.size) {n : Nat} (h : ∀ v ∈ cs.toList, ∃ x : ByteArray, v = .string x ∧ Q x) (hn : n = cs.size) : SRowQ Q (w.alloc (.cells cs t)) g (some ⟨w.heap.size, 0, none⟩) n := by
  subst hn
  refine ⟨w.heap.size, 0, rfl, by simp, by omega, fun j hj => ?_⟩
  have hm : cs[j] ∈ cs.toList := by rw [← Array.getElem_toList]; exact List.getElem_mem _
  obtain ⟨x, h1, h3⟩ := h _ hm
  exact ⟨x, by rw [World.cell?_alloc_mark]; simp [hj, h1], h3⟩
set_option maxHeartbeats 400000 in
theorem l1IntQ_any (Q : Int → Prop) (A : Option Addr) (n c : Nat) (hn : 0 < n) (w : World) (B g : Nat) (hc : Cur w B g) (hr : IRowQ Q w g A n) :
    Calls Tryz.prog 77 #[.pointer (some ⟨g, 0, none⟩), .slice A n c] w (Dr B g (fun v => ∃ x : Int, Q x ∧ v = .int .i64 x) w) := by
  go_enter Tryz.func77, Tryz.ntmps77
  go_wp2_with fail
  refine (l1Below_pos _ _ B g (by omega) hc).mono ?_
  rintro e w1 ⟨v, ⟨k, hk, rfl⟩, rfl, hc1, hk1⟩
  obtain ⟨b, off, rfl, hlt, hne, hcell⟩ := hr.kept hk1
  obtain ⟨x, hx, hw⟩ := hcell k (by omega)
  clear hcell hr
  go_wp2
  go_ret
  exact ⟨_, ⟨x, hw, rfl⟩, rfl, hc1, hk1⟩
set_option maxHeartbeats 400000 in
theorem l1StrQ_any (Q : ByteArray → Prop) (A : Option Addr) (n c : Nat) (hn : 0 < n) (w : World) (B g : Nat) (hc : Cur w B g) (hr : SRowQ Q w g A n) :
    Calls Tryz.prog 72 #[.pointer (some ⟨g, 0, none⟩), .slice A n c] w (Dr B g (fun v => ∃ s : ByteArray, Q s ∧ v = .string s) w) := by
  go_enter Tryz.func72, Tryz.ntmps72
  go_wp2_with fail
  refine (l1Below_pos _ _ B g (by omega) hc).mono ?_
  rintro e w1 ⟨v, ⟨k, hk, rfl⟩, rfl, hc1, hk1⟩
  obtain ⟨b, off, rfl, hlt, hne, hcell⟩ := hr.kept hk1
  obtain ⟨x, hx, hw⟩ := hcell k (by omega)
  clear hcell hr
  go_wp2
  go_ret
  exact ⟨_, ⟨x, hw, rfl⟩, rfl, hc1, hk1⟩
/-- the labels of l4Label; those that l4Any has besides -/
def L4b : List ByteArray := [⟨#[97, 110, 110]⟩, ⟨#[98, 111, 98]⟩, ⟨#[98, 97, 110, 107]⟩, ⟨#[115, 104, 111, 112]⟩, ⟨#[115, 104, 48, 112]⟩, ⟨#[53, 104, 111, 112]⟩, ⟨#[109, 97, 105, 108]⟩, ⟨#[109, 97, 45, 105, 108]⟩, ⟨#[97]⟩]
def LXb : List ByteArray := [⟨#[]⟩, ⟨#[45, 97]⟩, ⟨#[97, 45]⟩, ⟨#[65]⟩, ⟨#[97, 46, 98]⟩, ⟨#[97, 98, 99, 100, 101, 102, 103, 104]⟩, ⟨#[97, 98, 99, 100, 101, 102, 103, 104, 105]⟩, ⟨#[49, 108]⟩, ⟨#[108, 49]⟩, ⟨#[48]⟩]
def QL (s : ByteArray) : Prop := s ∈ L4b
def QX (s : ByteArray) : Prop := s ∈ LXb
def QA (s : ByteArray) : Prop := QL s ∨ QX s
theorem ql_size {s : ByteArray} (h : QL s) : s.size ≤ 16 := by
  unfold QL L4b at h
  simp only [List.mem_cons, List.not_mem_nil, or_false] at h
  rcases h with rfl | rfl | rfl | rfl | rfl | rfl | rfl | rfl | rfl <;> decide
theorem qx_size {s : ByteArray} (h : QX s) : s.size ≤ 16 := by
  unfold QX LXb at h
  simp only [List.mem_cons, List.not_mem_nil, or_false] at h
  rcases h with rfl | rfl | rfl | rfl | rfl | rfl | rfl | rfl | rfl | rfl <;> decide
theorem qa_size {s : ByteArray} (h : QA s) : s.size ≤ 16 := h.elim ql_size qx_size
theorem ql_cells : ∀ v ∈ (L4b.map Value.string), ∃ x : ByteArray, v = .string x ∧ QL x := fun v hv => by
  obtain ⟨x, hx, rfl⟩ := List.mem_map.1 hv
  exact ⟨x, rfl, hx⟩
theorem qx_cells : ∀ v ∈ (LXb.map Value.string), ∃ x : ByteArray, v = .string x ∧ QX x := fun v hv => by
  obtain ⟨x, hx, rfl⟩ := List.mem_map.1 hv
  exact ⟨x, rfl, hx⟩
def OddV (x : Int) : Prop := x = -1 ∨ x = 999999 ∨ x = 1000000 ∨ x = 2147483646 ∨ x = 2147483647
theorem odd_cells : ∀ v ∈ [Value.int .i64 (-1), Value.int .i64 999999, Value.int .i64 1000000, Value.int .i64 2147483646, Value.int .i64 2147483647], ∃ x : Int, v = .int .i64 x ∧ OddV x := fun v hv => by
  simp only [List.mem_cons, List.not_mem_nil, or_false] at hv
  unfold OddV
  rcases hv with rfl | rfl | rfl | rfl | rfl
  · exact ⟨_, rfl, by simp⟩
  · exact ⟨_, rfl, by simp⟩
  · exact ⟨_, rfl, by simp⟩
  · exact ⟨_, rfl, by simp⟩
  · exact ⟨_, rfl, by simp⟩
theorem odd_wf {x : Int} (h : OddV x) : (Lit.int .i64 x).wf = true := by
  unfold OddV at h
  rcases h with rfl | rfl | rfl | rfl | rfl <;> decide
/-- the paths of l5Path; of l5Any -/
def PS (p : List ByteArray) : Prop := 1 ≤ p.length ∧ p.length ≤ 3 ∧ ∀ s ∈ p, QL s
def PA (p : List ByteArray) : Prop := PS p ∨ (∃ d x y, p = d ++ [x, y] ∧ PS d ∧ QA x ∧ QA y) ∨ p = []
def DrSQ (Q : List ByteArray → Prop) (B g M : Nat) (w : World) (e : Ending) (w' : World) : Prop :=
  ∃ A' m c' ss, e = .returned (.slice A' m c') ∧ m ≤ M ∧ (∀ s ∈ ss, ByteArray.size s ≤ 16) ∧ Q ss ∧ OwnS w' w.heap.size w'.heap.size A' m c' ss ∧ Cur w' B g ∧ Kept g w w'
/-- the entries of l8Entry; of l8Any; of l9Any -/
def E0 (k : Entry) : Prop := QL k.label ∧ ((k.kind = 1 ∧ k.path = []) ∨ (k.kind = 2 ∧ 0 ≤ k.value ∧ k.value < 5000 ∧ k.path = []) ∨ (k.kind = 3 ∧ 0 ≤ k.value ∧ k.value < 5000 ∧ PS k.path))
def E1 (k : Entry) : Prop := ∃ h : Entry, E0 h ∧ (k = h ∨ (∃ x, k = { h with kind := x }) ∨ (∃ x, OddV x ∧ k = { h with value := x }) ∨ (∃ s, QA s ∧ k = { h with label := s }) ∨ (∃ p, PA p ∧ k = { h with path := p }))
def EL (k : Entry) : Prop := E1 k ∨ k.kind = 1
def DrEX (X : Entry → Prop) (B g : Nat) (w : World) (e : Ending) (w' : World) : Prop :=
  ∃ A n c kl kk kv kp, e = .returned (.agg #[.string kl, .int .i64 kk, .int .i64 kv, .slice A n c]) ∧ (SmE ⟨kl, kk, kv, kp⟩ ∧ X ⟨kl, kk, kv, kp⟩) ∧ OwnS w' (w.heap.size + 1) w'.heap.size A n c kp ∧ Cur w' B g ∧ Kept g w w'
def SmX (X : Entry → Prop) (m : Nat) (l : List Entry) : Prop := SmL m l ∧ ∀ e ∈ l, X e
theorem smX_mono {X : Entry → Prop} {m m' : Nat} {l : List Entry} (h : SmX X m l) (hm : m ≤ m') : SmX X m' l := ⟨smL_mono h.1 hm, h.2⟩
theorem smX_imp {X Y : Entry → Prop} {m : Nat} {l : List Entry} (h : SmX X m l) (hi : ∀ k, X k → Y k) : SmX Y m l := ⟨h.1, fun e he => hi e (h.2 e he)⟩
theorem smX_put {X : Entry → Prop} {m : Nat} {l : List Entry} {e : Entry} (h : SmX X m l) (he : SmE e ∧ X e) : SmX X (m + 1) (putE l e).1 := by
  refine ⟨smL_put h.1 he.1, ?_⟩
  unfold putE
  split
  · intro x hx
    rcases mem_putAll hx with rfl | hx
    · exact he.2
    · exact h.2 x hx
  · exact h.2
theorem smX_snoc {X : Entry → Prop} {m : Nat} {l : List Entry} {e : Entry} (h : SmX X m l) (he : SmE e ∧ X e) : SmX X (m + 1) (l ++ [e]) :=
  ⟨smL_snoc h.1 he.1, fun x hx => by
    rcases List.mem_append.1 hx with hx | hx
    · exact h.2 x hx
    · rw [List.mem_singleton.1 hx]
      exact he.2⟩
theorem lits_el {j : Nat} (hj : j < 12) : SmE ⟨lits.getD j .empty, 1, 1, []⟩ ∧ EL ⟨lits.getD j .empty, 1, 1, []⟩ := ⟨lits_sm hj, .inr rfl⟩
def DrLX (X : Entry → Prop) (m B g : Nat) (w : World) (e : Ending) (w' : World) : Prop :=
  ∃ A n c l, e = .returned (.slice A n c) ∧ SmX X m l ∧ FOwnEntry w' w.heap.size w'.heap.size A n c l ∧ Cur w' B g ∧ Kept g w w'
theorem l4Label_f (w : World) (B g : Nat) (hc : Cur w B g) : Calls Tryz.prog 73 #[.pointer (some ⟨g, 0, none⟩)] w (Dr B g (StrQ QL) w) := by
  go_enter Tryz.func73, Tryz.ntmps73
  go_wp2_with fail
  refine (l1StrQ_any QL _ _ _ (by omega) _ B g ?_ ?_).mono ?_
  · exact hc.alloc _
  · exact SRowQ.new hc.lt ql_cells rfl
  rintro e w2 ⟨v, ⟨y, hy, rfl⟩, rfl, hc2, hk2⟩
  go_wp2
  go_ret
  exact ⟨_, ⟨y, hy, rfl⟩, rfl, hc2, ((Kept.refl _ _).alloc _).trans hk2⟩
theorem l4Any_f (w : World) (B g : Nat) (hc : Cur w B g) : Calls Tryz.prog 40 #[.pointer (some ⟨g, 0, none⟩)] w (Dr B g (StrQ QA) w) := by
  go_enter Tryz.func40, Tryz.ntmps40
  go_wp2_with fail
  refine (l1Once_any _ _ B g hc).mono ?_
  rintro e w1 ⟨v, ⟨b, rfl⟩, rfl, hc1, hk1⟩
  cases b
  · go_wp2_with fail
    refine (l4Label_f _ B g hc1).mono ?_
    rintro e w2 ⟨v, ⟨y, hy, rfl⟩, rfl, hc2, hk2⟩
    go_wp2
    go_ret
    exact ⟨_, ⟨y, .inl hy, rfl⟩, rfl, hc2, hk1.trans hk2⟩
  · go_wp2_with fail
    refine (l1StrQ_any QX _ _ _ (by omega) _ B g ?_ ?_).mono ?_
    · exact hc1.alloc _
    · exact SRowQ.new hc1.lt qx_cells rfl
    rintro e w2 ⟨v, ⟨y, hy, rfl⟩, rfl, hc2, hk2⟩
    go_wp2
    go_ret
    exact ⟨_, ⟨y, .inr hy, rfl⟩, rfl, hc2, (hk1.alloc _).trans hk2⟩
theorem l5Path_f (w : World) (B g : Nat) (hc : Cur w B g) : Calls Tryz.prog 103 #[.pointer (some ⟨g, 0, none⟩)] w (DrSQ PS B g 3 w) := by
  have hgl := hc.lt
  have HO := Lib.hid (OwnS.lit0 (lo := w.heap.size) w (Nat.le_refl _))
  have HC := Lib.hid (hc.alloc (.cells #[] 9))
  have HK := Lib.hid ((Kept.refl g w).alloc (.cells #[] 9))
  clear hc
  go_enter Tryz.func103, Tryz.ntmps103
  go_wp2_with fail
  refine (l1Below_any 3 _ _ g HC.out).mono ?_
  rintro e w2 ⟨v, ⟨x, hx0, hx1, rfl⟩, rfl, hc2, hk2⟩
  have HO2 := Lib.hid (ownS_kept HO.out hk2 hgl).top
  have HC2 := Lib.hid hc2
  have HK2 := Lib.hid (HK.out.trans hk2)
  clear hc2 hk2
  have hx4 : x ≤ 2 := by omega
  clear hx1
  go_wp2
  go_loopw [3, 4] (fun v i wr => ∃ (A1 : Option Addr) (c1 m : Nat) (y : Int) (d : List ByteArray), v = .slice A1 m c1 ∧ i = .int .i64 y ∧ 0 ≤ y ∧ (1 ≤ (m : Int) + y ∧ (m : Int) + y ≤ 3) ∧ (∀ s ∈ d, QL s) ∧ OwnS wr w.heap.size wr.heap.size A1 m c1 d ∧ Cur wr B g ∧ Kept g w wr) (fun _ i _ => (intOf i).toNat)
  case atStart => exact ⟨_, 0, 0, 1 + x, [], rfl, rfl, by omega, by omega, by simp, HO2.out, HC2.out, HK2.out⟩
  case round =>
    obtain ⟨A1, c1, m, y, d, rfl, rfl, hy0, hy1, hd, hown, hcur, hkept⟩ := hrel
    have HD := Lib.hid hd
    have HOr := Lib.hid hown
    have HCr := Lib.hid hcur
    have HKr := Lib.hid hkept
    clear hown hcur hkept hd
    by_cases hyp : y > 0
    · go_wp2_with fail
      refine (l4Label_f _ _ g HCr.out).mono ?_
      rintro e w3 ⟨v, ⟨s, hs, rfl⟩, rfl, hc3, hk3⟩
      have hsz := ql_size hs
      have HO3 := Lib.hid (ownS_kept HOr.out hk3 hgl).top
      have HC3 := Lib.hid hc3
      have HK3 := Lib.hid (HKr.out.trans hk3)
      clear hc3 hk3
      have hz : InS s := by unfold InS maxLen; omega
      go_wp2_with (at_builtin; refine wp_pushS (z := s) rfl _ _ rfl rfl HO3.out rfl hz (by omega) HK3.out.size ?_; intro A2 c2 w4 hown4 hgr4)
      have hb4 := hgr4.below HK3.out.size HO3.out.ge
      go_roundw
      case rel => exact ⟨A2, c2, m + 1, y - 1, d ++ [s], rfl, by go_num, by omega, by omega, fun t ht => by rcases List.mem_append.1 ht with ht | ht; exact HD.out t ht; rw [List.mem_singleton.1 ht]; exact hs, hown4, cur_low HC3.out (hb4.mono (by omega)), kept_then HK3.out hb4⟩
      case measure => simp [intOf]; omega
    · go_wp2
      go_ret
      exact ⟨A1, m, c1, d, rfl, by omega, fun s hs => ql_size (HD.out s hs), ⟨by rw [HOr.out.len]; omega, by rw [HOr.out.len]; omega, HD.out⟩, HOr.out, HCr.out, HKr.out⟩
theorem l5Any_f (w : World) (B g : Nat) (hc : Cur w B g) : Calls Tryz.prog 109 #[.pointer (some ⟨g, 0, none⟩)] w (DrSQ PA B g 5 w) := by
  have hgl := hc.lt
  go_enter Tryz.func109, Tryz.ntmps109
  go_wp2_with fail
  refine (l5Path_f _ _ g hc).mono ?_
  rintro e w1 ⟨A1, m, c1, d, rfl, hm, hd, hps, ho1, hc1, hk1⟩
  have HO1 := Lib.hid ho1
  have HD := Lib.hid hd
  have HK1 := Lib.hid hk1
  clear ho1 hd hk1
  go_wp2_with fail
  refine (l1Below_any 8 _ _ g hc1).mono ?_
  rintro e w2 ⟨v, ⟨x, hx0, hx1, rfl⟩, rfl, hc2, hk2⟩
  have HO2 := Lib.hid (ownS_kept HO1.out hk2 hgl).top
  have HK2 := Lib.hid (HK1.out.trans hk2)
  have HC2 := Lib.hid hc2
  clear hk2 hc2 hc1 hx1
  by_cases h0 : x = 0
  · subst h0
    go_wp2_with fail
    refine (l4Any_f _ _ g HC2.out).mono ?_
    rintro e w3 ⟨v, ⟨s, hqs, rfl⟩, rfl, hc3, hk3⟩
    have hs := qa_size hqs
    have HO3 := Lib.hid (ownS_kept HO2.out hk3 hgl).top
    have HC3 := Lib.hid hc3
    have HK3 := Lib.hid (HK2.out.trans hk3)
    clear hc3 hk3
    go_wp2_with fail
    refine (l4Any_f _ _ g HC3.out).mono ?_
    rintro e w4 ⟨v, ⟨s2, hqs2, rfl⟩, rfl, hc4, hk4⟩
    have hs2 := qa_size hqs2
    have HO4 := Lib.hid (ownS_kept HO3.out hk4 hgl).top
    have HC4 := Lib.hid hc4
    have HK4 := Lib.hid (HK3.out.trans hk4)
    clear hc4 hk4
    have hz : InS s := by unfold InS maxLen; omega
    have hz2 : InS s2 := by unfold InS maxLen; omega
    go_wp2_with (at_builtin; refine wp_appS rfl _ _ rfl rfl (HO4.out.alloc _) rfl (rdS_two w4 hz hz2) (by omega) (by have := HK4.out.size; simp; omega) ?_; intro A2 c2 w5 hown5 hgr5)
    have hb5 : Below w.heap.size w4 w5 := ((Below.refl _ _).alloc HK4.out.size _).trans (hgr5.below (by have := HK4.out.size; simp; omega) HO4.out.ge)
    go_ret
    refine ⟨A2, m + 2, c2, d ++ [s, s2], rfl, by omega, fun t ht => ?_, .inr (.inl ⟨d, s, s2, rfl, hps, hqs, hqs2⟩), hown5, cur_low HC4.out (hb5.mono (by omega)), kept_then HK4.out hb5⟩
    rcases List.mem_append.1 ht with ht | ht
    · exact HD.out t ht
    · rcases List.mem_cons.1 ht with rfl | ht
      · exact hs
      · rw [List.mem_singleton.1 ht]
        exact hs2
  by_cases h1 : x = 1
  · subst h1
    go_wp2
    go_ret
    have hb5 : Below w.heap.size w2 (w2.alloc (.cells #[] EST)) := (Below.refl _ _).alloc HK2.out.size _
    exact ⟨_, 0, 0, [], rfl, by omega, by simp, .inr (.inr rfl), (OwnS.lit0 (lo := w.heap.size) w2 HK2.out.size).top, cur_low HC2.out (hb5.mono (by omega)), kept_then HK2.out hb5⟩
  · go_wp2
    go_ret
    exact ⟨A1, m, c1, d, rfl, by omega, HD.out, .inl hps, HO2.out, HC2.out, HK2.out⟩
set_option maxHeartbeats 2000000 in
theorem l8Entry_f (w : World) (B g : Nat) (hc : Cur w B g) : Calls Tryz.prog 71 #[.pointer (some ⟨g, 0, none⟩)] w (DrEX E0 B g w) := by
  have hgl := hc.lt
  have HC0 := Lib.hid (hc.alloc (.cells #[.string ⟨#[]⟩, .int .i64 0, .int .i64 0, .slice none 0 0] 29))
  have HK0 := Lib.hid ((Kept.refl g w).alloc (.cells #[.string ⟨#[]⟩, .int .i64 0, .int .i64 0, .slice none 0 0] 29))
  have HR0 := Lib.hid (show Box (w.alloc (.cells #[.string ⟨#[]⟩, .int .i64 0, .int .i64 0, .slice none 0 0] 29)) w.heap.size [.string ⟨#[]⟩, .int .i64 0, .int .i64 0, .slice none 0 0] from by
    have := Box.new w #[.string ⟨#[]⟩, .int .i64 0, .int .i64 0, .slice none 0 0] 29
    simpa using this)
  clear hc
  go_enter Tryz.func71, Tryz.ntmps71
  go_wp2_with fail
  refine (l4Label_f _ B g HC0.out).mono ?_
  rintro e w1 ⟨v, ⟨kl, hQ, rfl⟩, rfl, hc1, hk1⟩
  have hkl := ql_size hQ
  have hz1 : w.heap.size + 1 ≤ w1.heap.size := by have := hk1.size; simpa using this
  have HC1 := Lib.hid hc1
  have HK1 := Lib.hid (HK0.out.trans hk1)
  have HR1 := Lib.hid (bxK HR0.out hk1 (by omega))
  clear hc1 hk1
  go_wp2_with fail
  refine (l1Below_any 5 _ B g HC1.out).mono ?_
  rintro e w2 ⟨v, ⟨y, hy0, hy1, rfl⟩, rfl, hc2, hk2⟩
  have hz2 : w.heap.size + 1 ≤ w2.heap.size := Nat.le_trans hz1 hk2.size
  have HC2 := Lib.hid hc2
  have HK2 := Lib.hid (HK1.out.trans hk2)
  have HR2 := Lib.hid (bxK HR1.out hk2 (by omega))
  clear hc2 hk2 hy1 hz1
  have hcase : y = 0 ∨ y = 1 ∨ (y ≠ 0 ∧ y ≠ 1) := by omega
  rcases hcase with rfl | rfl | ⟨h0, h1⟩
  · go_wp2_with fail
    refine (l1Below_any 5000 _ B g HC2.out).mono ?_
    rintro e w3 ⟨v, ⟨x, hx0, hx1, rfl⟩, rfl, hc3, hk3⟩
    have hz3 : w.heap.size + 1 ≤ w3.heap.size := Nat.le_trans hz2 hk3.size
    have hx9 : x < 5000 := by omega
    have HC3 := Lib.hid hc3
    have HK3 := Lib.hid (HK2.out.trans hk3)
    have HR3 := Lib.hid (bxK HR2.out hk3 (by omega))
    clear hc3 hk3 hx1
    go_wp2_with fail
    refine (sZoneEntry_any kl x w3 (show InS kl by unfold InS maxLen; omega) (inI64 (by omega) (by omega))).mono ?_
    rintro e w4 ⟨cs, rfl, hown, hb4⟩
    obtain ⟨A, n, c, rfl, _, _, _, ho⟩ := REntry_own.1 hown
    simp only at ho
    have HO4 := Lib.hid (ho.base hz3)
    have HC4 := Lib.hid (HC3.out.below hb4)
    have HK4 := Lib.hid (HK3.out.trans (Kept.of_below hb4))
    have HR4 := Lib.hid (HR3.out.below hb4 (by omega))
    have hz4 : w.heap.size + 1 ≤ w4.heap.size := Nat.le_trans hz3 hb4.size
    clear hown ho hb4
    have r0 := HR4.out.cell (j := 0) rfl
    have r1 := HR4.out.cell (j := 1) rfl
    have r2 := HR4.out.cell (j := 2) rfl
    have r3 := HR4.out.cell (j := 3) rfl
    have g0 := HR4.out.warm (j := 0) rfl
    have g1 := HR4.out.warm (j := 1) rfl
    have g2 := HR4.out.warm (j := 2) rfl
    have g3 := HR4.out.warm (j := 3) rfl
    go_wp2
    refine bodyPost_ret (v := .agg #[.string kl, .int .i64 2, .int .i64 x, .slice A n c]) (by simp [results, Tryz.results71, go_sem, r0, r1, r2, r3]) rfl ⟨A, n, c, kl, 2, x, [], rfl, ⟨⟨hkl, inI64 (by simp) (by simp), inI64 (by simp only; omega) (by simp only; omega), by simp, by simp⟩, ⟨hQ, .inr (.inl ⟨rfl, hx0, hx9, rfl⟩)⟩⟩, ?_, ?_, ?_⟩
    · refine (OwnS.top (hi := w4.heap.size) ?_).base (show w.heap.size + 1 ≤ w.heap.size + 1 by omega)
      repeat refine OwnS.store ?_ _ (.inl (by simp; try omega))
      exact HO4.out
    · refine cur_low HC4.out ?_
      repeat' refine Below.setCell ?_ ?_ _
      all_goals first | exact Below.refl _ _ | (simp; omega)
    · refine kept_then HK4.out ?_
      repeat' refine Below.setCell ?_ ?_ _
      all_goals first | exact Below.refl _ _ | (simp; done) | (simp; omega)
  · go_wp2_with fail
    refine (l1Below_any 5000 _ B g HC2.out).mono ?_
    rintro e w3 ⟨v, ⟨x, hx0, hx1, rfl⟩, rfl, hc3, hk3⟩
    have hz3 : w.heap.size + 1 ≤ w3.heap.size := Nat.le_trans hz2 hk3.size
    have hx9 : x < 5000 := by omega
    have HC3 := Lib.hid hc3
    have HK3 := Lib.hid (HK2.out.trans hk3)
    have HR3 := Lib.hid (bxK HR2.out hk3 (by omega))
    clear hc3 hk3 hx1
    go_wp2_with fail
    refine (l5Path_f w3 B g HC3.out).mono ?_
    rintro e w4 ⟨Ap, np, cp, kp, rfl, hnp, hsp, hps, hop, hc4, hk4⟩
    have hz4 : w.heap.size + 1 ≤ w4.heap.size := Nat.le_trans hz3 hk4.size
    have HC4 := Lib.hid hc4
    have HK4 := Lib.hid (HK3.out.trans hk4)
    have HR4 := Lib.hid (bxK HR3.out hk4 (by omega))
    have HP4 := Lib.hid hop.rd
    have hpl := hop.len
    clear hc4 hk4 hop
    go_wp2_with fail
    refine (sMovedEntry_any kl x Ap np cp kp w4 (show InS kl by unfold InS maxLen; omega) (inI64 (by omega) (by omega)) HP4.out (by omega)).mono ?_
    rintro e w5 ⟨cs, rfl, hown, hb5⟩
    obtain ⟨A, n, c, rfl, _, _, _, ho⟩ := REntry_own.1 hown
    simp only at ho
    have HO5 := Lib.hid (ho.base hz4)
    have HC5 := Lib.hid (HC4.out.below hb5)
    have HK5 := Lib.hid (HK4.out.trans (Kept.of_below hb5))
    have HR5 := Lib.hid (HR4.out.below hb5 (by omega))
    have hz5 : w.heap.size + 1 ≤ w5.heap.size := Nat.le_trans hz4 hb5.size
    clear hown ho hb5
    have r0 := HR5.out.cell (j := 0) rfl
    have r1 := HR5.out.cell (j := 1) rfl
    have r2 := HR5.out.cell (j := 2) rfl
    have r3 := HR5.out.cell (j := 3) rfl
    have g0 := HR5.out.warm (j := 0) rfl
    have g1 := HR5.out.warm (j := 1) rfl
    have g2 := HR5.out.warm (j := 2) rfl
    have g3 := HR5.out.warm (j := 3) rfl
    go_wp2
    refine bodyPost_ret (v := .agg #[.string kl, .int .i64 3, .int .i64 x, .slice A n c]) (by simp [results, Tryz.results71, go_sem, r0, r1, r2, r3]) rfl ⟨A, n, c, kl, 3, x, kp, rfl, ⟨⟨hkl, inI64 (by simp) (by simp), inI64 (by simp only; omega) (by simp only; omega), by simp only; omega, hsp⟩, ⟨hQ, .inr (.inr ⟨rfl, hx0, hx9, hps⟩)⟩⟩, ?_, ?_, ?_⟩
    · refine (OwnS.top (hi := w5.heap.size) ?_).base (show w.heap.size + 1 ≤ w.heap.size + 1 by omega)
      repeat refine OwnS.store ?_ _ (.inl (by simp; try omega))
      exact HO5.out
    · refine cur_low HC5.out ?_
      repeat' refine Below.setCell ?_ ?_ _
      all_goals first | exact Below.refl _ _ | (simp; omega)
    · refine kept_then HK5.out ?_
      repeat' refine Below.setCell ?_ ?_ _
      all_goals first | exact Below.refl _ _ | (simp; done) | (simp; omega)
  · have e0 : (y == 0) = false := beq_eq_false_iff_ne.2 h0
    have e1 : (y == 1) = false := beq_eq_false_iff_ne.2 h1
    go_wp2_with fail
    refine (l1Below_any 50 _ B g HC2.out).mono ?_
    rintro e w3 ⟨v, ⟨x, hx0, hx1, rfl⟩, rfl, hc3, hk3⟩
    have hz3 : w.heap.size + 1 ≤ w3.heap.size := Nat.le_trans hz2 hk3.size
    have hx9 : x < 5000 := by omega
    have HC3 := Lib.hid hc3
    have HK3 := Lib.hid (HK2.out.trans hk3)
    have HR3 := Lib.hid (bxK HR2.out hk3 (by omega))
    clear hc3 hk3 hx1
    go_wp2_with fail
    refine (sValueEntry_any kl x w3 (show InS kl by unfold InS maxLen; omega) (inI64 (by omega) (by omega))).mono ?_
    rintro e w4 ⟨cs, rfl, hown, hb4⟩
    obtain ⟨A, n, c, rfl, _, _, _, ho⟩ := REntry_own.1 hown
    simp only at ho
    have HO4 := Lib.hid (ho.base hz3)
    have HC4 := Lib.hid (HC3.out.below hb4)
    have HK4 := Lib.hid (HK3.out.trans (Kept.of_below hb4))
    have HR4 := Lib.hid (HR3.out.below hb4 (by omega))
    have hz4 : w.heap.size + 1 ≤ w4.heap.size := Nat.le_trans hz3 hb4.size
    clear hown ho hb4
    have r0 := HR4.out.cell (j := 0) rfl
    have r1 := HR4.out.cell (j := 1) rfl
    have r2 := HR4.out.cell (j := 2) rfl
    have r3 := HR4.out.cell (j := 3) rfl
    have g0 := HR4.out.warm (j := 0) rfl
    have g1 := HR4.out.warm (j := 1) rfl
    have g2 := HR4.out.warm (j := 2) rfl
    have g3 := HR4.out.warm (j := 3) rfl
    go_wp2
    refine bodyPost_ret (v := .agg #[.string kl, .int .i64 1, .int .i64 x, .slice A n c]) (by simp [results, Tryz.results71, go_sem, r0, r1, r2, r3]) rfl ⟨A, n, c, kl, 1, x, [], rfl, ⟨⟨hkl, inI64 (by simp) (by simp), inI64 (by simp only; omega) (by simp only; omega), by simp, by simp⟩, ⟨hQ, .inl ⟨rfl, rfl⟩⟩⟩, ?_, ?_, ?_⟩
    · refine (OwnS.top (hi := w4.heap.size) ?_).base (show w.heap.size + 1 ≤ w.heap.size + 1 by omega)
      repeat refine OwnS.store ?_ _ (.inl (by simp; try omega))
      exact HO4.out
    · refine cur_low HC4.out ?_
      repeat' refine Below.setCell ?_ ?_ _
      all_goals first | exact Below.refl _ _ | (simp; omega)
    · refine kept_then HK4.out ?_
      repeat' refine Below.setCell ?_ ?_ _
      all_goals first | exact Below.refl _ _ | (simp; done) | (simp; omega)
set_option maxHeartbeats 4000000 in
theorem l8Any_f (w : World) (B g : Nat) (hc : Cur w B g) : Calls Tryz.prog 83 #[.pointer (some ⟨g, 0, none⟩)] w (DrEX E1 B g w) := by
  have hgl := hc.lt
  have HC0 := Lib.hid (hc.alloc (.cells #[.string ⟨#[]⟩, .int .i64 0, .int .i64 0, .slice none 0 0] 29))
  have HK0 := Lib.hid ((Kept.refl g w).alloc (.cells #[.string ⟨#[]⟩, .int .i64 0, .int .i64 0, .slice none 0 0] 29))
  have HR0 := Lib.hid (show Box (w.alloc (.cells #[.string ⟨#[]⟩, .int .i64 0, .int .i64 0, .slice none 0 0] 29)) w.heap.size [.string ⟨#[]⟩, .int .i64 0, .int .i64 0, .slice none 0 0] from by
    have := Box.new w #[.string ⟨#[]⟩, .int .i64 0, .int .i64 0, .slice none 0 0] 29
    simpa using this)
  clear hc
  go_enter Tryz.func83, Tryz.ntmps83
  go_wp2_with fail
  refine (l8Entry_f _ B g HC0.out).mono ?_
  rintro e w1 ⟨A, n, c, kl, kk, kv, kp, rfl, ⟨hsm, he0⟩, hown, hc1, hk1⟩
  have HE0 := Lib.hid he0
  clear he0
  have hz1 : w.heap.size + 1 ≤ w1.heap.size := by have := hk1.size; simpa using this
  have HSM := Lib.hid hsm
  have HC1 := Lib.hid (hc1.alloc (.cells #[.string kl, .int .i64 kk, .int .i64 kv, .slice A n c] 29))
  have HK1 := Lib.hid ((HK0.out.trans hk1).alloc (.cells #[.string kl, .int .i64 kk, .int .i64 kv, .slice A n c] 29))
  have HR1 := Lib.hid ((bxK HR0.out hk1 (by omega)).alloc (.cells #[.string kl, .int .i64 kk, .int .i64 kv, .slice A n c] 29))
  have HX1 := Lib.hid (show Box (w1.alloc (.cells #[.string kl, .int .i64 kk, .int .i64 kv, .slice A n c] 29)) w1.heap.size [.string kl, .int .i64 kk, .int .i64 kv, .slice A n c] from by
    have := Box.new w1 #[.string kl, .int .i64 kk, .int .i64 kv, .slice A n c] 29
    simpa using this)
  have HO1 := Lib.hid ((hown.base (show w.heap.size + 1 ≤ _ by simp)).alloc (.cells #[.string kl, .int .i64 kk, .int .i64 kv, .slice A n c] 29))
  have hgz : g < w1.heap.size := by omega
  clear hc1 hk1 hsm hown
  go_wp2_with fail
  refine (l1Below_any 10 _ B g HC1.out).mono ?_
  rintro e w2 ⟨v, ⟨y, hy0, hy1, rfl⟩, rfl, hc2, hk2⟩
  have hz2 : w1.heap.size + 1 ≤ w2.heap.size := by have := hk2.size; simpa using this
  have HC2 := Lib.hid hc2
  have HK2 := Lib.hid (HK1.out.trans hk2)
  have HR2 := Lib.hid (bxK HR1.out hk2 (by omega))
  have HX2 := Lib.hid (bxK HX1.out hk2 (by omega))
  have HO2 := Lib.hid (ownS_kept HO1.out hk2 (by omega))
  clear hc2 hk2 hy1
  generalize hK : w1.heap.size = K at *
  have HKK := Lib.hid hK
  clear hK
  have hKw : K ≠ w.heap.size := by omega
  have hKw2 : w.heap.size ≠ K := by omega
  have hk2 : K < w2.heap.size := by omega
  have hw2 : w.heap.size < w2.heap.size := by omega
  have hcase : y = 0 ∨ y = 1 ∨ y = 2 ∨ y = 3 ∨ (y ≠ 0 ∧ y ≠ 1 ∧ y ≠ 2 ∧ y ≠ 3) := by omega
  rcases hcase with rfl | rfl | rfl | rfl | ⟨h0, h1, h2, h3⟩
  · go_wp2_with fail
    refine (l1Int_any _ 5 5 (by decide) _ B g (HC2.out.alloc _) (IRow.new (by omega) rfl rfl)).mono ?_
    rintro e w3 ⟨v, ⟨x, hx, rfl⟩, rfl, hc3, hk3⟩
    have hxi : In .i64 x := by have := hx; simp [Lit.wf, IntKind.min, IntKind.max, IntKind.signed, IntKind.bits] at this; exact inI64 this.1 this.2
    have HXI := Lib.hid hxi
    clear hx hxi
    have HX3 := Lib.hid (bxK (HX2.out.alloc _) hk3 (by omega))
    have HR3 := Lib.hid (bxK (HR2.out.alloc _) hk3 (by omega))
    have HO3 := Lib.hid (ownS_kept (HO2.out.alloc _) hk3 (by omega))
    have HC3 := Lib.hid hc3
    have HK3 := Lib.hid (((HK2.out).alloc _).trans hk3)
    have hs3 : w2.heap.size ≤ w3.heap.size := by have := hk3.size; first | omega | (simp at this; omega)
    clear hc3 hk3
    have c0' := HX3.out.cell (j := 0) rfl
    have f0 := HX3.out.warm (j := 0) rfl
    have r0 := HR3.out.cell (j := 0) rfl
    have g0 := HR3.out.warm (j := 0) rfl
    have c1' := HX3.out.cell (j := 1) rfl
    have f1 := HX3.out.warm (j := 1) rfl
    have r1 := HR3.out.cell (j := 1) rfl
    have g1 := HR3.out.warm (j := 1) rfl
    have c2' := HX3.out.cell (j := 2) rfl
    have f2 := HX3.out.warm (j := 2) rfl
    have r2 := HR3.out.cell (j := 2) rfl
    have g2 := HR3.out.warm (j := 2) rfl
    have c3' := HX3.out.cell (j := 3) rfl
    have f3 := HX3.out.warm (j := 3) rfl
    have r3 := HR3.out.cell (j := 3) rfl
    have g3 := HR3.out.warm (j := 3) rfl
    go_wp2
    refine bodyPost_ret (v := .agg #[.string kl, .int .i64 x, .int .i64 kv, .slice A n c]) (by simp [results, Tryz.results83, go_sem, r0, r1, r2, r3]) rfl ⟨A, n, c, kl, x, kv, kp, rfl, ⟨⟨HSM.out.1, HXI.out, HSM.out.2.2.1, HSM.out.2.2.2.1, HSM.out.2.2.2.2⟩, ⟨_, HE0.out, .inr (.inl ⟨x, rfl⟩)⟩⟩, ?_, ?_, ?_⟩
    · refine (OwnS.top (hi := K) ?_).base (show w.heap.size + 1 ≤ w.heap.size + 1 by omega)
      repeat' refine OwnS.store ?_ _ ?_
      all_goals first | exact HO3.out | (left; simp; done) | (left; simp; omega) | (right; simp; done) | (right; simp; omega)
    · refine cur_low HC3.out ?_
      repeat' refine Below.setCell ?_ ?_ _
      all_goals first | exact Below.refl _ _ | (simp; omega)
    · refine kept_then HK3.out ?_
      repeat' refine Below.setCell ?_ ?_ _
      all_goals first | exact Below.refl _ _ | (simp; done) | (simp; omega)
  · go_wp2_with fail
    refine (l1IntQ_any OddV _ 5 5 (by decide) _ B g (HC2.out.alloc _) (IRowQ.new (by omega) odd_cells rfl)).mono ?_
    rintro e w3 ⟨v, ⟨x, hxq, rfl⟩, rfl, hc3, hk3⟩
    have hx := odd_wf hxq
    have HXQ := Lib.hid hxq
    clear hxq
    have hxi : In .i64 x := by have := hx; simp [Lit.wf, IntKind.min, IntKind.max, IntKind.signed, IntKind.bits] at this; exact inI64 this.1 this.2
    have HXI := Lib.hid hxi
    clear hx hxi
    have HX3 := Lib.hid (bxK (HX2.out.alloc _) hk3 (by omega))
    have HR3 := Lib.hid (bxK (HR2.out.alloc _) hk3 (by omega))
    have HO3 := Lib.hid (ownS_kept (HO2.out.alloc _) hk3 (by omega))
    have HC3 := Lib.hid hc3
    have HK3 := Lib.hid (((HK2.out).alloc _).trans hk3)
    have hs3 : w2.heap.size ≤ w3.heap.size := by have := hk3.size; first | omega | (simp at this; omega)
    clear hc3 hk3
    have c0' := HX3.out.cell (j := 0) rfl
    have f0 := HX3.out.warm (j := 0) rfl
    have r0 := HR3.out.cell (j := 0) rfl
    have g0 := HR3.out.warm (j := 0) rfl
    have c1' := HX3.out.cell (j := 1) rfl
    have f1 := HX3.out.warm (j := 1) rfl
    have r1 := HR3.out.cell (j := 1) rfl
    have g1 := HR3.out.warm (j := 1) rfl
    have c2' := HX3.out.cell (j := 2) rfl
    have f2 := HX3.out.warm (j := 2) rfl
    have r2 := HR3.out.cell (j := 2) rfl
    have g2 := HR3.out.warm (j := 2) rfl
    have c3' := HX3.out.cell (j := 3) rfl
    have f3 := HX3.out.warm (j := 3) rfl
    have r3 := HR3.out.cell (j := 3) rfl
    have g3 := HR3.out.warm (j := 3) rfl
    go_wp2
    refine bodyPost_ret (v := .agg #[.string kl, .int .i64 kk, .int .i64 x, .slice A n c]) (by simp [results, Tryz.results83, go_sem, r0, r1, r2, r3]) rfl ⟨A, n, c, kl, kk, x, kp, rfl, ⟨⟨HSM.out.1, HSM.out.2.1, HXI.out, HSM.out.2.2.2.1, HSM.out.2.2.2.2⟩, ⟨_, HE0.out, .inr (.inr (.inl ⟨x, HXQ.out, rfl⟩))⟩⟩, ?_, ?_, ?_⟩
    · refine (OwnS.top (hi := K) ?_).base (show w.heap.size + 1 ≤ w.heap.size + 1 by omega)
      repeat' refine OwnS.store ?_ _ ?_
      all_goals first | exact HO3.out | (left; simp; done) | (left; simp; omega) | (right; simp; done) | (right; simp; omega)
    · refine cur_low HC3.out ?_
      repeat' refine Below.setCell ?_ ?_ _
      all_goals first | exact Below.refl _ _ | (simp; omega)
    · refine kept_then HK3.out ?_
      repeat' refine Below.setCell ?_ ?_ _
      all_goals first | exact Below.refl _ _ | (simp; done) | (simp; omega)
  · go_wp2_with fail
    refine (l4Any_f _ B g HC2.out).mono ?_
    rintro e w3 ⟨v, ⟨s, hQA, rfl⟩, rfl, hc3, hk3⟩
    have hs := qa_size hQA
    have HX3 := Lib.hid (bxK (HX2.out) hk3 (by omega))
    have HR3 := Lib.hid (bxK (HR2.out) hk3 (by omega))
    have HO3 := Lib.hid (ownS_kept (HO2.out) hk3 (by omega))
    have HC3 := Lib.hid hc3
    have HK3 := Lib.hid (((HK2.out)).trans hk3)
    have hs3 : w2.heap.size ≤ w3.heap.size := by have := hk3.size; first | omega | (simp at this; omega)
    clear hc3 hk3
    have c0' := HX3.out.cell (j := 0) rfl
    have f0 := HX3.out.warm (j := 0) rfl
    have r0 := HR3.out.cell (j := 0) rfl
    have g0 := HR3.out.warm (j := 0) rfl
    have c1' := HX3.out.cell (j := 1) rfl
    have f1 := HX3.out.warm (j := 1) rfl
    have r1 := HR3.out.cell (j := 1) rfl
    have g1 := HR3.out.warm (j := 1) rfl
    have c2' := HX3.out.cell (j := 2) rfl
    have f2 := HX3.out.warm (j := 2) rfl
    have r2 := HR3.out.cell (j := 2) rfl
    have g2 := HR3.out.warm (j := 2) rfl
    have c3' := HX3.out.cell (j := 3) rfl
    have f3 := HX3.out.warm (j := 3) rfl
    have r3 := HR3.out.cell (j := 3) rfl
    have g3 := HR3.out.warm (j := 3) rfl
    go_wp2
    refine bodyPost_ret (v := .agg #[.string s, .int .i64 kk, .int .i64 kv, .slice A n c]) (by simp [results, Tryz.results83, go_sem, r0, r1, r2, r3]) rfl ⟨A, n, c, s, kk, kv, kp, rfl, ⟨⟨hs, HSM.out.2.1, HSM.out.2.2.1, HSM.out.2.2.2.1, HSM.out.2.2.2.2⟩, ⟨_, HE0.out, .inr (.inr (.inr (.inl ⟨s, hQA, rfl⟩)))⟩⟩, ?_, ?_, ?_⟩
    · refine (OwnS.top (hi := K) ?_).base (show w.heap.size + 1 ≤ w.heap.size + 1 by omega)
      repeat' refine OwnS.store ?_ _ ?_
      all_goals first | exact HO3.out | (left; simp; done) | (left; simp; omega) | (right; simp; done) | (right; simp; omega)
    · refine cur_low HC3.out ?_
      repeat' refine Below.setCell ?_ ?_ _
      all_goals first | exact Below.refl _ _ | (simp; omega)
    · refine kept_then HK3.out ?_
      repeat' refine Below.setCell ?_ ?_ _
      all_goals first | exact Below.refl _ _ | (simp; done) | (simp; omega)
  · go_wp2_with fail
    refine (l5Any_f _ B g HC2.out).mono ?_
    rintro e w3 ⟨Ap, np, cp, pp, rfl, hnp, hsp, hpa, hop, hc3, hk3⟩
    have HP3 := Lib.hid hop
    have hpl := hop.len
    clear hop
    have HX3 := Lib.hid (bxK (HX2.out) hk3 (by omega))
    have HR3 := Lib.hid (bxK (HR2.out) hk3 (by omega))
    have HO3 := Lib.hid (ownS_kept (HO2.out) hk3 (by omega))
    have HC3 := Lib.hid hc3
    have HK3 := Lib.hid (((HK2.out)).trans hk3)
    have hs3 : w2.heap.size ≤ w3.heap.size := by have := hk3.size; first | omega | (simp at this; omega)
    clear hc3 hk3
    have c0' := HX3.out.cell (j := 0) rfl
    have f0 := HX3.out.warm (j := 0) rfl
    have r0 := HR3.out.cell (j := 0) rfl
    have g0 := HR3.out.warm (j := 0) rfl
    have c1' := HX3.out.cell (j := 1) rfl
    have f1 := HX3.out.warm (j := 1) rfl
    have r1 := HR3.out.cell (j := 1) rfl
    have g1 := HR3.out.warm (j := 1) rfl
    have c2' := HX3.out.cell (j := 2) rfl
    have f2 := HX3.out.warm (j := 2) rfl
    have r2 := HR3.out.cell (j := 2) rfl
    have g2 := HR3.out.warm (j := 2) rfl
    have c3' := HX3.out.cell (j := 3) rfl
    have f3 := HX3.out.warm (j := 3) rfl
    have r3 := HR3.out.cell (j := 3) rfl
    have g3 := HR3.out.warm (j := 3) rfl
    go_wp2
    refine bodyPost_ret (v := .agg #[.string kl, .int .i64 kk, .int .i64 kv, .slice Ap np cp]) (by simp [results, Tryz.results83, go_sem, r0, r1, r2, r3]) rfl ⟨Ap, np, cp, kl, kk, kv, pp, rfl, ⟨⟨HSM.out.1, HSM.out.2.1, HSM.out.2.2.1, by simp only; omega, hsp⟩, ⟨_, HE0.out, .inr (.inr (.inr (.inr ⟨pp, hpa, rfl⟩)))⟩⟩, ?_, ?_, ?_⟩
    · refine (OwnS.top (hi := w3.heap.size) ?_).base (show w.heap.size + 1 ≤ w2.heap.size by omega)
      repeat' refine OwnS.store ?_ _ ?_
      all_goals first | exact HP3.out | (left; simp; done) | (left; simp; omega) | (right; simp; done) | (right; simp; omega)
    · refine cur_low HC3.out ?_
      repeat' refine Below.setCell ?_ ?_ _
      all_goals first | exact Below.refl _ _ | (simp; omega)
    · refine kept_then HK3.out ?_
      repeat' refine Below.setCell ?_ ?_ _
      all_goals first | exact Below.refl _ _ | (simp; done) | (simp; omega)
  · have e0 : (y == 0) = false := beq_eq_false_iff_ne.2 h0
    have e1 : (y == 1) = false := beq_eq_false_iff_ne.2 h1
    have e2 : (y == 2) = false := beq_eq_false_iff_ne.2 h2
    have e3 : (y == 3) = false := beq_eq_false_iff_ne.2 h3
    have c0' := HX2.out.cell (j := 0) rfl
    have f0 := HX2.out.warm (j := 0) rfl
    have r0 := HR2.out.cell (j := 0) rfl
    have g0 := HR2.out.warm (j := 0) rfl
    have c1' := HX2.out.cell (j := 1) rfl
    have f1 := HX2.out.warm (j := 1) rfl
    have r1 := HR2.out.cell (j := 1) rfl
    have g1 := HR2.out.warm (j := 1) rfl
    have c2' := HX2.out.cell (j := 2) rfl
    have f2 := HX2.out.warm (j := 2) rfl
    have r2 := HR2.out.cell (j := 2) rfl
    have g2 := HR2.out.warm (j := 2) rfl
    have c3' := HX2.out.cell (j := 3) rfl
    have f3 := HX2.out.warm (j := 3) rfl
    have r3 := HR2.out.cell (j := 3) rfl
    have g3 := HR2.out.warm (j := 3) rfl
    go_wp2
    refine bodyPost_ret (v := .agg #[.string kl, .int .i64 kk, .int .i64 kv, .slice A n c]) (by simp [results, Tryz.results83, go_sem, r0, r1, r2, r3]) rfl ⟨A, n, c, kl, kk, kv, kp, rfl, ⟨⟨HSM.out.1, HSM.out.2.1, HSM.out.2.2.1, HSM.out.2.2.2.1, HSM.out.2.2.2.2⟩, ⟨_, HE0.out, .inl rfl⟩⟩, ?_, ?_, ?_⟩
    · refine (OwnS.top (hi := K) ?_).base (show w.heap.size + 1 ≤ w.heap.size + 1 by omega)
      repeat' refine OwnS.store ?_ _ ?_
      all_goals first | exact HO2.out | (left; simp; done) | (left; simp; omega) | (right; simp; done) | (right; simp; omega)
    · refine cur_low HC2.out ?_
      repeat' refine Below.setCell ?_ ?_ _
      all_goals first | exact Below.refl _ _ | (simp; omega)
    · refine kept_then HK2.out ?_
      repeat' refine Below.setCell ?_ ?_ _
      all_goals first | exact Below.refl _ _ | (simp; done) | (simp; omega)
set_option maxHeartbeats 1000000 in
theorem l9List_f (w : World) (B g : Nat) (hc : Cur w B g) : Calls Tryz.prog 39 #[.pointer (some ⟨g, 0, none⟩)] w (DrLX E0 6 B g w) := by
  have hgl := hc.lt
  have HC0 := Lib.hid (hc.alloc (.cells #[] 29))
  have HK0 := Lib.hid ((Kept.refl g w).alloc (.cells #[] 29))
  have HO0 := Lib.hid (show FOwnEntry (w.alloc (.cells #[] 29)) w.heap.size (w.heap.size + 1) (some ⟨w.heap.size, 0, none⟩) 0 0 [] from by
    have h := Owns.lit0 (lo := w.heap.size) REntry w (Nat.le_refl _)
    rw [show REntry.ty = 29 from rfl] at h
    exact h)
  clear hc
  go_enter Tryz.func39, Tryz.ntmps39
  go_wp2_with fail
  refine (l1Below_any 7 _ B g HC0.out).mono ?_
  rintro e w1 ⟨v, ⟨x, hx0, hx1, rfl⟩, rfl, hc1, hk1⟩
  obtain ⟨i0, rfl⟩ : ∃ i0 : Nat, x = i0 := ⟨x.toNat, by omega⟩
  have hi0 : i0 ≤ 6 := by omega
  have HC1 := Lib.hid hc1
  have HK1 := Lib.hid (HK0.out.trans hk1)
  have HO1 := Lib.hid ((HO0.out.keep (w' := w1) fun i h0 h1 h2 => hk1.block i h0 (by omega)).wide (Nat.le_refl _) (show w.heap.size + 1 ≤ w1.heap.size from by have := hk1.size; simpa using this))
  clear hc1 hk1 hx0 hx1
  go_wp2
  go_loopw [3, 4] (fun o v wr => ∃ (i : Nat) (A1 : Option Addr) (n1 c1 : Nat) (l1 : List Entry), i ≤ 6 ∧ v = .int .i64 i ∧ o = .slice A1 n1 c1 ∧ FOwnEntry wr w.heap.size wr.heap.size A1 n1 c1 l1 ∧ SmX E0 (6 - i) l1 ∧ Cur wr B g ∧ Kept g w wr) (fun _ v _ => (intOf v).toNat)
  case atStart => exact ⟨i0, _, 0, 0, [], hi0, rfl, rfl, HO1.out, ⟨⟨by simp, by simp⟩, by simp⟩, HC1.out, HK1.out⟩
  case round =>
    obtain ⟨i, A1, n1, c1, l1, hi, rfl, rfl, ho, hsl, hc, hk⟩ := hrel
    have HC := Lib.hid hc
    have HK := Lib.hid hk
    have HO := Lib.hid ho
    have HS := Lib.hid hsl
    clear hc hk ho hsl
    by_cases h0 : 0 < i
    · have hi1 : (0 : Int) < i := by omega
      go_wp2_with fail
      refine (l8Entry_f wr B g HC.out).mono ?_
      rintro e w2 ⟨Ae, ne, ce, kl, kk, kv, kp, rfl, hsm, hown, hc2, hk2⟩
      have HO2 := Lib.hid ((HO.out.keep (w' := w2) fun i h0 h1 h2 => hk2.block i h0 (by omega)).wide (Nat.le_refl _) hk2.size)
      have hwr : w.heap.size ≤ w2.heap.size := by have := HK.out.size; have := hk2.size; omega
      have HP := Lib.hid (sPutEntry_any A1 n1 c1 l1 [.string kl, .int .i64 kk, .int .i64 kv, .slice Ae ne ce] ⟨kl, kk, kv, kp⟩ w2 HO2.out.rd (sm_rd (k := ⟨kl, kk, kv, kp⟩) (hown.top) hsm.1) (by have := smL_tot HS.out.1; omega) (by have := sm_tot hsm.1; omega))
      have HSM := Lib.hid hsm
      have HC2 := Lib.hid hc2
      have HK2 := Lib.hid (HK.out.trans hk2)
      have HW := Lib.hid hwr
      clear hsm hown hc2 hk2 hwr
      go_wp2_with fail
      refine HP.out.mono ?_
      rintro e w3 ⟨A3, c3, rfl, ho3, hb3⟩
      have HO3 := Lib.hid (ho3.base HW.out)
      have HC3 := Lib.hid (HC2.out.below hb3)
      have HK3 := Lib.hid (HK2.out.trans (Kept.of_below hb3))
      clear ho3 hb3
      go_wp2
      go_roundw
      case rel => exact ⟨i - 1, A3, _, c3, (putE l1 ⟨kl, kk, kv, kp⟩).1, by omega, by go_num, rfl, HO3.out, smX_mono (smX_put HS.out HSM.out) (by omega), HC3.out, HK3.out⟩
      case measure => simp [intOf]; omega
    · obtain rfl : i = 0 := by omega
      go_wp2
      go_ret
      exact ⟨A1, n1, c1, l1, rfl, smX_mono HS.out (by omega), HO.out, HC.out, HK.out⟩
set_option maxHeartbeats 2000000 in
theorem l9Any_f (w : World) (B g : Nat) (hc : Cur w B g) : Calls Tryz.prog 48 #[.pointer (some ⟨g, 0, none⟩)] w (DrLX EL 18 B g w) := by
  have hgl := hc.lt
  go_enter Tryz.func48, Tryz.ntmps48
  go_wp2_with fail
  refine (l9List_f w B g hc).mono ?_
  rintro e w1 ⟨A, n, c, l, rfl, hsl, hown, hc1, hk1⟩
  have HS1 := Lib.hid (smX_imp (Y := EL) hsl fun k hk => .inl ⟨k, hk, .inl rfl⟩)
  have HO1 := Lib.hid hown
  have HC1 := Lib.hid hc1
  have HK1 := Lib.hid hk1
  have HNL := Lib.hid hown.len
  clear hsl hown hc1 hk1 hc
  go_wp2_with fail
  refine (l1Below_any 10 _ B g HC1.out).mono ?_
  rintro e w2 ⟨v, ⟨x, hx0, hx1, rfl⟩, rfl, hc2, hk2⟩
  have HO2 := Lib.hid ((HO1.out.keep (w' := w2) fun i h0 h1 h2 => hk2.block i h0 (by omega)).wide (Nat.le_refl _) hk2.size)
  have HC2 := Lib.hid hc2
  have HK2 := Lib.hid (HK1.out.trans hk2)
  have hw2 : w.heap.size ≤ w2.heap.size := by have := HK1.out.size; have := hk2.size; omega
  have hn6 : n ≤ 6 := by have := HS1.out.1.1; have := HNL.out; omega
  clear hc2 hk2 hx1
  by_cases hx : x = 0
  · subst hx
    go_wp2_with fail
    refine (l8Any_f w2 B g HC2.out).mono ?_
    rintro e w3 ⟨Ae, ne, ce, kl, kk, kv, kp, rfl, hsm, hown, hc3, hk3⟩
    have HO3 := Lib.hid (HO2.out.keep (w' := w3) fun i h0 h1 h2 => hk3.block i h0 (by omega))
    have HZ3 := Lib.hid (show OwnI REntry w3 w2.heap.size w3.heap.size [.string kl, .int .i64 kk, .int .i64 kv, .slice Ae ne ce] ⟨kl, kk, kv, kp⟩ from REntry_own.2 ⟨Ae, ne, ce, rfl, by have := hsm.1.1; unfold InS maxLen; omega, hsm.1.2.1, hsm.1.2.2.1, hown.base (Nat.le_succ _)⟩)
    have HSM := Lib.hid (show SmE ⟨kl, kk, kv, kp⟩ ∧ EL ⟨kl, kk, kv, kp⟩ from ⟨hsm.1, .inl hsm.2⟩)
    replace hsm := hsm.1
    have HC3 := Lib.hid hc3
    have HK3 := Lib.hid (HK2.out.trans hk3)
    have hw3 : w.heap.size ≤ w3.heap.size := by have := hk3.size; omega
    have HN1 := Lib.hid (show n + 1 ≤ 68719476736 by omega)
    have HW2 := Lib.hid hw2
    have HW3 := Lib.hid hw3
    clear hsm hown hc3 hk3
    go_wp2_with (at_builtin; refine wp_pushR (st := 24) (mid := w2.heap.size) (hi := w3.heap.size) (lo := w.heap.size) REntry tiEntry rfl _ _ rfl rfl HO3.out rfl HZ3.out HN1.out HW2.out HW3.out ?_; intro A4 c4 w4 hown4 hgr4)
    have HO4 := Lib.hid hown4
    have HB4 := Lib.hid (hgr4.below (B := w.heap.size) hw3 HO3.out.ge)
    have HC4 := Lib.hid (cur_then HC3.out HB4.out hgl)
    have HK4 := Lib.hid (kept_then HK3.out HB4.out)
    clear hown4 hgr4
    go_wp2
    go_ret
    exact ⟨A4, n + 1, c4, l ++ [⟨kl, kk, kv, kp⟩], rfl, smX_mono (smX_snoc HS1.out HSM.out) (by omega), HO4.out, HC4.out, HK4.out⟩
  · by_cases hy : x = 1
    · subst hy
      have HL0 := Lib.hid (lits_rd w2)
      obtain ⟨V, hV⟩ : ∃ V, V = w2.alloc (.cells #[.string ⟨#[99]⟩, .string ⟨#[100]⟩, .string ⟨#[101]⟩, .string ⟨#[102]⟩, .string ⟨#[103]⟩, .string ⟨#[104]⟩, .string ⟨#[105]⟩, .string ⟨#[106]⟩, .string ⟨#[107]⟩, .string ⟨#[108]⟩, .string ⟨#[109]⟩, .string ⟨#[110]⟩] 9) := ⟨_, rfl⟩
      have hVs : V.heap.size = w2.heap.size + 1 := by rw [hV]; simp
      have HOV := Lib.hid (show FOwnEntry V w.heap.size V.heap.size A n c l from by rw [hV]; exact (HO2.out.alloc _).wide (Nat.le_refl _) (by simp))
      have HCV := Lib.hid (show Cur V B g from by rw [hV]; exact HC2.out.alloc _)
      have HKV := Lib.hid (show Kept g w V from by rw [hV]; exact HK2.out.alloc _)
      rw [← hV] at HL0
      have HL := Lib.hid (show RdS V V.heap.size (some ⟨w2.heap.size, 0, none⟩) 12 lits from by rw [hVs]; exact HL0.out)
      have HVV := Lib.hid hV
      have hwV : w.heap.size ≤ V.heap.size := by omega
      have HWV := Lib.hid hwV
      clear hV HL0 hVs hwV
      go_wp2
      rw [← HVV.out]
      go_loopw [3, 21] (fun o v wr => ∃ (j : Nat) (A1 : Option Addr) (n1 c1 : Nat) (l1 : List Entry), j ≤ 12 ∧ v = .int .i64 j ∧ o = .slice A1 n1 c1 ∧ FOwnEntry wr w.heap.size wr.heap.size A1 n1 c1 l1 ∧ SmX EL (6 + j) l1 ∧ Below V.heap.size V wr) (fun _ v _ => 12 - (intOf v).toNat)
      case atStart => exact ⟨0, A, n, c, l, by omega, rfl, rfl, HOV.out, HS1.out, Below.refl _ _⟩
      case round =>
        obtain ⟨j, A1, n1, c1, l1, hj, rfl, rfl, ho, hsl, hb⟩ := hrel
        have HB := Lib.hid hb
        have HO := Lib.hid ho
        have HS := Lib.hid hsl
        clear hb ho hsl
        by_cases hjn : j < 12
        · obtain ⟨b, off, e, hlt, hcj⟩ := (HL.out.below HB.out (Nat.le_refl _)).cell_at hjn
          injection e with e
          injection e with e1 e2 _
          subst e1 e2
          have hsm := lits_el hjn
          rw [Nat.zero_add] at hcj
          generalize lits.getD j .empty = s at hcj hsm
          have HSM := Lib.hid hsm
          have HVE := Lib.hid (sValueEntry_any s 1 wr (by have := hsm.1.1; simp only at this; unfold InS maxLen; omega) (RKA.inI64 (by omega) (by omega)))
          have hj1 : (j : Int) < 12 := by omega
          clear hsm
          go_wp2_with fail
          refine HVE.out.mono ?_
          rintro e w3 ⟨cs, rfl, hown3, hb3⟩
          have HB3 := Lib.hid (HB.out.trans (hb3.mono HB.out.size))
          have HO3 := Lib.hid ((HO.out.below hb3 (Nat.le_refl _)).wide (Nat.le_refl _) hb3.size)
          have HP := Lib.hid (sPutEntry_any A1 n1 c1 l1 cs ⟨s, 1, 1, []⟩ w3 HO3.out.rd hown3.rd (by have := smL_tot HS.out.1; omega) (by have := sm_tot HSM.out.1; omega))
          obtain ⟨Ae, ne, ce, rfl, _⟩ := REntry_own.1 hown3
          clear hown3 hb3 hcj
          go_wp2_with fail
          refine HP.out.mono ?_
          rintro e w4 ⟨A4, c4, rfl, ho4, hb4⟩
          have HO4 := Lib.hid (ho4.base (Nat.le_trans HWV.out HB3.out.size))
          have HB4 := Lib.hid (HB3.out.trans (hb4.mono HB3.out.size))
          clear ho4 hb4
          go_wp2
          go_roundw
          case rel => exact ⟨j + 1, A4, _, c4, (putE l1 ⟨s, 1, 1, []⟩).1, by omega, by go_num, rfl, HO4.out, smX_put HS.out HSM.out, HB4.out⟩
          case measure => simp [intOf]; omega
        · obtain rfl : j = 12 := by omega
          go_wp2
          go_ret
          exact ⟨A1, n1, c1, l1, rfl, HS.out, HO.out, HCV.out.below HB.out, HKV.out.trans (Kept.of_below HB.out)⟩
    · have hx2 : ¬ x = 0 := hx
      have hb0 : (x == 0) = false := beq_eq_false_iff_ne.2 hx
      have hb1 : (x == 1) = false := beq_eq_false_iff_ne.2 hy
      go_wp2
      go_ret
      exact ⟨A, n, c, l, rfl, smX_mono HS1.out (by omega), HO2.out, HC2.out, HK2.out⟩
end Go.Proofs.YtbhhifoofapgiaaGreat.D11
