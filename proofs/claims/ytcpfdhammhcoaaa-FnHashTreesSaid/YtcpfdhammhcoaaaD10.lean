/- The drawing functions of chapter 10: what they return, and that they write into nothing that was there. -/
import Derived.Test.YtcpfdhammhcoaaaD09
import Derived.Test.YtcpfdhammhcoaaaC10S
namespace Go.Proofs.Ytcpfdhammhcoaaa.D10
open Go.RowKit Mem MemS M02 C01 C02 Rep RepA RW R08 Q08 M04 M05 M08 M09 M10 C10S D01 D08 D09 SL RKA
set_option linter.unusedVariables false
set_option maxRecDepth 100000
theorem in_wf {x : Int} (h : (Lit.int .i64 x).wf = true) : In .i64 x := by
  simp only [Lit.wf, Bool.and_eq_true, decide_eq_true_eq] at h
  exact ⟨h.1, h.2⟩
theorem ownI_kept {w w' : World} {g lo hi n c : Nat} {A : Option Addr} {zs : List Int} (h : Own .i64 w lo hi A n c zs) (hk : Kept g w w') (hg : g < lo) : Own .i64 w' lo hi A n c zs :=
  h.keep fun i h0 h1 _ => hk.block i h0 (by omega)
/-- leaves: from 0 to 99 -/
def Lv (l : List Int) : Prop := ∀ z ∈ l, 0 ≤ z ∧ z ≤ 99
def DrLv (m B g : Nat) (w : World) (e : Ending) (w' : World) : Prop :=
  ∃ A n c l, e = .returned (.slice A n c) ∧ n ≤ m ∧ Lv l ∧ Own .i64 w' w.heap.size w'.heap.size A n c l ∧ Cur w' B g ∧ Kept g w w'
theorem l10Leaves_any (w : World) (B g : Nat) (hc : Cur w B g) : Calls Try.prog 36 #[.pointer (some ⟨g, 0, none⟩)] w (DrLv 12 B g w) := by
  have hgl := hc.lt
  have HO := Lib.hid (Own.lit0 (lo := w.heap.size) .i64 w (Nat.le_refl _))
  have hca := hc.alloc (.cells #[] 3)
  have HK := Lib.hid ((Kept.refl g w).alloc (.cells #[] 3))
  clear hc
  go_enter Try.func36, Try.ntmps36
  go_wp2_with fail
  refine (l1Below_any _ _ B g hca).mono ?_
  rintro e w1 ⟨v, ⟨y, hy0, hy1, rfl⟩, rfl, hc1, hk1⟩
  obtain ⟨k0, rfl⟩ : ∃ k : Nat, y = k := ⟨y.toNat, by omega⟩
  have hk0 : k0 ≤ 12 := by omega
  have HC1 := Lib.hid hc1
  have HO1 := Lib.hid (ownI_kept HO.out hk1 hgl).top
  have HK1 := Lib.hid (HK.out.trans hk1)
  clear hc1 hk1 hca hy0 hy1
  go_wp2
  go_loopw [3, 4] (fun v i wr => ∃ (A1 : Option Addr) (c1 j k : Nat) (d : List Int), v = .slice A1 j c1 ∧ i = .int .i64 k ∧ j + k ≤ 12 ∧ Lv d ∧ Own .i64 wr w.heap.size wr.heap.size A1 j c1 d ∧ Cur wr B g ∧ Kept g w wr) (fun _ i _ => (intOf i).toNat)
  case atStart => exact ⟨_, 0, 0, k0, [], rfl, rfl, by omega, by simp [Lv], HO1.out, HC1.out, HK1.out⟩
  case round =>
    obtain ⟨A1, c1, j, k, d, rfl, rfl, hj, hd, hown, hcur, hkept⟩ := hrel
    have HD := Lib.hid hd
    have HOr := Lib.hid hown
    have HCr := Lib.hid hcur
    have HKr := Lib.hid hkept
    clear hown hcur hkept hd
    by_cases hk : 0 < k
    · go_wp2_with fail
      refine (l1Below_any _ _ B g HCr.out).mono ?_
      rintro e w2 ⟨v, ⟨x, hx0, hx1, rfl⟩, rfl, hc2, hk2⟩
      have HO2 := Lib.hid (ownI_kept HOr.out hk2 hgl).top
      have HC2 := Lib.hid hc2
      have HK2 := Lib.hid (HKr.out.trans hk2)
      have hx9 : x ≤ 99 := by omega
      clear hc2 hk2 hx1
      have hz : In .i64 x := inI64 (by omega) (by omega)
      go_wp2_with (at_builtin; refine wp_push (k := .i64) (z := x) (by unfold BI; decide) rfl _ _ rfl rfl HO2.out rfl hz (by omega) HK2.out.size ?_; intro A2 c2 w3 hown3 hgr3)
      have hb3 : Below w.heap.size w2 w3 := hgr3.below HK2.out.size HO2.out.ge
      go_roundw
      case rel =>
        refine ⟨A2, c2, j + 1, k - 1, d ++ [x], rfl, by go_num, by omega, fun u hu => ?_, hown3, cur_then HC2.out hb3 hgl, kept_then HK2.out hb3⟩
        rcases List.mem_append.1 hu with hu | hu
        · exact HD.out u hu
        · have e : u = x := by simpa using hu
          omega
      case measure => simp [intOf]; omega
    · go_wp2
      go_ret
      exact ⟨A1, j, c1, d, rfl, by omega, HD.out, HOr.out, HCr.out, HKr.out⟩
theorem drawPathFor_any (w : World) (A : Option Addr) (n c : Nat) (hn : n ≤ maxLen) (hr : BRow w w.heap.size A n) :
    Calls Try.prog 11 #[.slice A n c] w fun e w' => ∃ A' m c' l i, e = .returned (.tuple #[.slice A' m c', .int .i64 i]) ∧ -1 ≤ i ∧ i ≤ m ∧ m ≤ 12 ∧ Lv l ∧ Own .i64 w' w.heap.size w'.heap.size A' m c' l ∧ Below w.heap.size w w' := by
  go_enter Try.func11, Try.ntmps11
  go_wp2_with fail
  refine (l1New_any w A n c hn hr).mono ?_
  rintro e w1 ⟨g, rfl, hc1, hb1⟩
  have hg0 := hc1.1
  have hgl := hc1.lt
  have HB := Lib.hid hb1
  clear hb1 hr
  go_wp2_with fail
  refine (l10Leaves_any _ _ g hc1).mono ?_
  rintro e w2 ⟨A', m, c', l, rfl, hm, hl, ho, hc2, hk2⟩
  have HL := Lib.hid hl
  have HO := Lib.hid ho
  have HK2 := Lib.hid hk2
  clear hk2 ho hl hc1
  go_wp2_with fail
  refine (l1Below_any _ _ _ g hc2).mono ?_
  rintro e w3 ⟨v, ⟨x, hx0, hx1, rfl⟩, rfl, hc3, hk3⟩
  have HO3 := Lib.hid (ownI_kept HO.out hk3 hgl).top
  have HK3 := Lib.hid (HK2.out.trans hk3)
  have hxm : x ≤ m + 1 := by omega
  clear hk3 hc3 hc2 hx1
  go_wp2
  go_ret2
  exact ⟨_, m, _, l, x - 1, rfl, by omega, by omega, hm, HL.out, HO3.out.base HB.out.size, HB.out.trans (HK3.out.below hg0 HB.out.size)⟩
def DrRL (w : World) (e : Ending) (w' : World) : Prop :=
  ∃ A n c l, e = .returned (.slice A n c) ∧ SmL 18 l ∧ FOwnEntry w' w.heap.size w'.heap.size A n c l ∧ Below w.heap.size w w'
theorem drawAreEntries_any (w : World) (A : Option Addr) (n c : Nat) (hn : n ≤ maxLen) (hr : BRow w w.heap.size A n) :
    Calls Try.prog 49 #[.slice A n c] w (DrRL w) := by
  go_enter Try.func49, Try.ntmps49
  go_wp2_with fail
  refine (l1New_any w A n c hn hr).mono ?_
  rintro e w1 ⟨g, rfl, hc1, hb1⟩
  have hgB := hc1.1
  have HB1 := Lib.hid hb1
  clear hb1
  go_wp2_with fail
  refine (l9Any_any _ _ g hc1).mono ?_
  rintro e w2 ⟨Al, nl, cl, l, rfl, hsl, hown, hc2, hk2⟩
  have HS := Lib.hid hsl
  have HO := Lib.hid (hown.base HB1.out.size)
  have HB2 := Lib.hid (HB1.out.trans (hk2.below hgB HB1.out.size))
  clear hsl hown hc2 hk2
  go_wp2
  go_ret
  exact ⟨Al, nl, cl, l, rfl, HS.out, HO.out, HB2.out⟩
theorem drawRootOf_any (w : World) (A : Option Addr) (n c : Nat) (hn : n ≤ maxLen) (hr : BRow w w.heap.size A n) :
    Calls Try.prog 20 #[.slice A n c] w (DrRL w) := by
  go_enter Try.func20, Try.ntmps20
  go_wp2_with fail
  refine (drawAreEntries_any w A n c hn hr).mono ?_
  rintro e w1 ⟨Al, nl, cl, l, rfl, hsl, ho, hb⟩
  have HO := Lib.hid ho
  have HB := Lib.hid hb
  clear ho hb
  go_wp2
  go_ret
  exact ⟨Al, nl, cl, l, rfl, hsl, HO.out, HB.out⟩
theorem sm_fine {k : Entry} (h : SmE k) : totEntry k ≤ 200 := by
  obtain ⟨h0, _, _, h3, h4⟩ := h
  have h5 : ∀ l : List ByteArray, (∀ s ∈ l, s.size ≤ 16) → (l.map ByteArray.size).sum ≤ l.length * 16 := by
    intro l
    induction l with
    | nil => intro _; simp
    | cons x r ih =>
      intro h
      have h1 := ih fun s hs => h s (List.mem_cons_of_mem _ hs)
      have h2 := h x List.mem_cons_self
      simp only [List.length_cons, List.map_cons, List.sum_cons]
      omega
  have := h5 _ h4
  unfold totEntry totSS
  omega
theorem smL_fine {m : Nat} {l : List Entry} (h : SmL m l) : totR totEntry l ≤ m * 201 := by
  have key : ∀ l : List Entry, (∀ e ∈ l, SmE e) → totR totEntry l ≤ l.length * 201 := by
    intro l
    induction l with
    | nil => intro _; simp [totR]
    | cons z r ih =>
      intro hz
      have h1 := ih fun e he => hz e (by simp [he])
      have h2 := sm_fine (hz z (by simp))
      have h3 : totR totEntry (z :: r) = totEntry z + 1 + totR totEntry r := by unfold totR; simp; omega
      rw [h3, List.length_cons]
      omega
  have h1 := key l h.2
  exact Nat.le_trans h1 (Nat.mul_le_mul_right 201 h.1)
def DrTF (w : World) (e : Ending) (w' : World) : Prop :=
  ∃ a b m A n c p, e = .returned (.tuple #[.int .i64 a, .int .i64 b, .int .i64 m, .slice A n c]) ∧ In .i64 a ∧ In .i64 b ∧ In .i64 m ∧ n ≤ 13 ∧ Rd .i64 w' w'.heap.size A n p ∧ Below w.heap.size w w'
set_option maxHeartbeats 2000000 in
theorem drawTopFrom_any (w : World) (A : Option Addr) (n c : Nat) (hn : n ≤ maxLen) (hr : BRow w w.heap.size A n) :
    Calls Try.prog 18 #[.slice A n c] w (DrTF w) := by
  go_enter Try.func18, Try.ntmps18
  go_wp2_with fail
  refine (l1New_any w A n c hn hr).mono ?_
  rintro e w1 ⟨g, rfl, hc1, hb1⟩
  have hg0 := hc1.1
  have hgl := hc1.lt
  have HB := Lib.hid hb1
  clear hb1 hr
  go_wp2_with fail
  refine (l10Leaves_any _ _ g hc1).mono ?_
  rintro e w2 ⟨A', m, c', l, rfl, hm, hl, ho, hc2, hk2⟩
  have HL := Lib.hid hl
  have HO := Lib.hid ho
  have HK2 := Lib.hid hk2
  clear hk2 ho hl hc1
  go_wp2_with fail
  refine (l1Below_any _ _ _ g hc2).mono ?_
  rintro e w3 ⟨v, ⟨x, hx0, hx1, rfl⟩, rfl, hc3, hk3⟩
  have HO3 := Lib.hid (ownI_kept HO.out hk3 hgl).top
  have HK3 := Lib.hid (HK2.out.trans hk3)
  have HC3 := Lib.hid hc3
  have hxm : x ≤ m + 1 := by omega
  obtain ⟨i, hi⟩ : ∃ i : Int, x - 1 = i := ⟨_, rfl⟩
  have hi0 : -1 ≤ i := by omega
  have hi1 : i ≤ m := by omega
  have hw : IntKind.i64.wrap (x - 1) = i := by rw [IntKind.wrap_i64]; omega
  have HLN := Lib.hid HO3.out.len
  clear hk3 hc3 hc2 hx1
  have hpl := pathFor_len l i
  have HPF := Lib.hid (sPathFor_any A' m c' l i w3 HO3.out.rd (by omega))
  have hpm : (pathFor l i).length ≤ 12 := by have := HLN.out; omega
  generalize pathFor l i = p at HPF hpm
  generalize hk : p.length = k at HPF hpm
  clear hpl hk
  go_wp2_with fail
  refine HPF.out.mono ?_
  rintro e w4 ⟨Ap, cp, rfl, hop, hb4⟩
  have HP4 := Lib.hid hop
  have HO4 := Lib.hid (HO3.out.below hb4 (Nat.le_refl _))
  have HC4 := Lib.hid (HC3.out.below hb4)
  have HK4 := Lib.hid (HK3.out.trans (Kept.of_below hb4))
  have hg3 : g < w3.heap.size := by have := HK3.out.size; omega
  have hii : In .i64 i := inI64 (by omega) (by omega)
  have hmi : In .i64 m := inI64 (by omega) (by omega)
  have H13 := HK3.out.size
  have H34 := hb4.size
  have H01 := HB.out.size
  clear hop hb4
  rcases hin : inR i 0 ((m : Int) - 1) with _ | _
  all_goals
    have hK := fun w1 => l1In_any i 0 ((m : Int) - 1) w1
    rw [hin] at hK
    have HK := Lib.hid hK
    clear hK
  · have hlf : In .i64 5 := inI64 (by omega) (by omega)
    go_wp2_with fail
    refine (HK.out _).mono ?_
    rintro e w9 ⟨rfl, rfl⟩
    have hc5 := l1Below_any 6 w4 w.heap.size g HC4.out
    have HCK := Lib.hid hc5
    clear hc5
    go_wp2_with fail
    refine HCK.out.mono ?_
    rintro e w5 ⟨v, ⟨y, hy0, hy1, rfl⟩, rfl, hc5, hk5⟩
    have HP5 := Lib.hid (ownI_kept HP4.out hk5 hg3).top
    have HC5 := Lib.hid hc5
    have HK5 := Lib.hid (HK4.out.trans hk5)
    have H45 := hk5.size
    have HBB := Lib.hid (HB.out.trans (HK5.out.below hg0 HB.out.size))
    clear hk5 hc5 hy1
    by_cases q0 : y = 0
    · subst q0
      go_wp2_with (at_builtin; refine wp_push (k := .i64) (z := 7) (by unfold BI; decide) rfl _ _ rfl rfl HP5.out rfl (inI64 (by omega) (by omega)) (by omega) (by omega) ?_; intro A2 c2 w6 hown6 hgr6)
      have HB6 := Lib.hid (HBB.out.trans (hgr6.below (B := w.heap.size) (by omega) fun a ha => by have := HP5.out.ge a ha; omega))
      have HR6 := Lib.hid hown6.rd
      clear hown6 hgr6
      go_wp2
      refine bodyPost_ret (v := .tuple #[.int .i64 5, .int .i64 i, .int .i64 m, .slice A2 (k + 1) c2]) (by simp [results, Try.results18, go_sem]) rfl ⟨5, i, m, A2, k + 1, c2, _, rfl, hlf, hii, hmi, by omega, HR6.out, HB6.out⟩
    · have qb0 : (y == 0) = false := beq_eq_false_iff_ne.2 q0
      by_cases q1 : y = 1
      · subst q1
        by_cases hk0 : 0 < k
        · obtain ⟨bp, op, rfl, hlt, -⟩ := HP5.out.rd.cells hk0
          have hcap := HP5.out.cap
          unfold maxLen at hcap
          have HR6 := Lib.hid (show Rd .i64 w5 w5.heap.size (some ⟨bp, op + 1, none⟩) (k - 1) ((p.take k).drop 1) from by
            by_cases h9 : 1 < k
            · exact HP5.out.rd.part (by omega) (Nat.le_refl _) h9
            · obtain rfl : k = 1 := by omega
              have : p.length = 1 := HP5.out.len
              rw [List.drop_eq_nil_of_le (by rw [List.length_take]; omega)]
              exact Rd.nil _ _ _ _)
          by_cases hcp : cp = 1
          · obtain rfl : k = 1 := by omega
            subst hcp
            clear HR6
            go_wp2
            refine bodyPost_ret (v := .tuple #[.int .i64 5, .int .i64 i, .int .i64 m, .slice (some ⟨bp, op, none⟩) 0 0]) (by simp [results, Try.results18, go_sem]) rfl ⟨5, i, m, _, 0, _, _, rfl, hlf, hii, hmi, by omega, Rd.nil _ _ _ _, HBB.out⟩
          · go_wp2
            refine bodyPost_ret (v := .tuple #[.int .i64 5, .int .i64 i, .int .i64 m, .slice (some ⟨bp, op + 1, none⟩) (k - 1) (cp - 1)]) (by simp [results, Try.results18, go_sem]) rfl ⟨5, i, m, _, k - 1, _, _, rfl, hlf, hii, hmi, by omega, HR6.out, HBB.out⟩
        · have HR6 := Lib.hid HP5.out.rd
          go_wp2
          refine bodyPost_ret (v := .tuple #[.int .i64 5, .int .i64 i, .int .i64 m, .slice Ap k cp]) (by simp [results, Try.results18, go_sem]) rfl ⟨5, i, m, _, k, _, _, rfl, hlf, hii, hmi, by omega, HR6.out, HBB.out⟩
      · have qb1 : (y == 1) = false := beq_eq_false_iff_ne.2 q1
        by_cases q2 : y = 2
        · subst q2
          have HI := Lib.hid (IRow.new (w := w5) (g := g) (cs := #[.int .i64 0, .int .i64 12, .int .i64 13, .int .i64 (-1)]) (t := 3) (n := 4) HC5.out.lt (by decide +kernel) rfl)
          have HCA := Lib.hid (HC5.out.alloc (.cells #[.int .i64 0, .int .i64 12, .int .i64 13, .int .i64 (-1)] 3))
          have HKA := Lib.hid ((Kept.refl g w5).alloc (.cells #[.int .i64 0, .int .i64 12, .int .i64 13, .int .i64 (-1)] 3))
          go_wp2_with fail
          refine (l1Int_any _ _ _ (by omega) _ w.heap.size g HCA.out HI.out).mono ?_
          rintro e w6 ⟨v, ⟨z, hz, rfl⟩, rfl, hc6, hk6⟩
          have HK6 := Lib.hid (HKA.out.trans hk6)
          have HR6 := Lib.hid (ownI_kept HP5.out HK6.out hg3).top.rd
          have HB6 := Lib.hid (HBB.out.trans (HK6.out.below hg0 (by omega)))
          clear hc6 hk6
          go_wp2
          refine bodyPost_ret (v := .tuple #[.int .i64 5, .int .i64 i, .int .i64 z, .slice Ap k cp]) (by simp [results, Try.results18, go_sem]) rfl ⟨5, i, z, _, k, _, _, rfl, hlf, hii, in_wf hz, by omega, HR6.out, HB6.out⟩
        · have qb2 : (y == 2) = false := beq_eq_false_iff_ne.2 q2
          have HR6 := Lib.hid HP5.out.rd
          go_wp2
          refine bodyPost_ret (v := .tuple #[.int .i64 5, .int .i64 i, .int .i64 m, .slice Ap k cp]) (by simp [results, Try.results18, go_sem]) rfl ⟨5, i, m, _, k, _, _, rfl, hlf, hii, hmi, by omega, HR6.out, HBB.out⟩
  · have hi2 : 0 ≤ i ∧ i ≤ (m : Int) - 1 := by unfold inR at hin; simpa using hin
    obtain ⟨j, rfl⟩ : ∃ j : Nat, i = j := ⟨i.toNat, by omega⟩
    have hjm : j < m := by omega
    obtain ⟨bl, ol, rfl, hltl, hcl⟩ := HO4.out.rd.cell_at hjm
    have hlf : In .i64 (l.getD j 0) := getD_in HO4.out.wf (by have := HLN.out; omega)
    generalize l.getD j 0 = lf at hlf hcl
    go_wp2_with fail
    refine (HK.out _).mono ?_
    rintro e w9 ⟨rfl, rfl⟩
    have hc5 := l1Below_any 6 w4 w.heap.size g HC4.out
    have HCK := Lib.hid hc5
    clear hc5
    go_wp2_with fail
    refine HCK.out.mono ?_
    rintro e w5 ⟨v, ⟨y, hy0, hy1, rfl⟩, rfl, hc5, hk5⟩
    have HP5 := Lib.hid (ownI_kept HP4.out hk5 hg3).top
    have HC5 := Lib.hid hc5
    have HK5 := Lib.hid (HK4.out.trans hk5)
    have H45 := hk5.size
    have HBB := Lib.hid (HB.out.trans (HK5.out.below hg0 HB.out.size))
    clear hk5 hc5 hy1
    by_cases q0 : y = 0
    · subst q0
      go_wp2_with (at_builtin; refine wp_push (k := .i64) (z := 7) (by unfold BI; decide) rfl _ _ rfl rfl HP5.out rfl (inI64 (by omega) (by omega)) (by omega) (by omega) ?_; intro A2 c2 w6 hown6 hgr6)
      have HB6 := Lib.hid (HBB.out.trans (hgr6.below (B := w.heap.size) (by omega) fun a ha => by have := HP5.out.ge a ha; omega))
      have HR6 := Lib.hid hown6.rd
      clear hown6 hgr6
      go_wp2
      refine bodyPost_ret (v := .tuple #[.int .i64 lf, .int .i64 j, .int .i64 m, .slice A2 (k + 1) c2]) (by simp [results, Try.results18, go_sem]) rfl ⟨lf, j, m, A2, k + 1, c2, _, rfl, hlf, hii, hmi, by omega, HR6.out, HB6.out⟩
    · have qb0 : (y == 0) = false := beq_eq_false_iff_ne.2 q0
      by_cases q1 : y = 1
      · subst q1
        by_cases hk0 : 0 < k
        · obtain ⟨bp, op, rfl, hlt, -⟩ := HP5.out.rd.cells hk0
          have hcap := HP5.out.cap
          unfold maxLen at hcap
          have HR6 := Lib.hid (show Rd .i64 w5 w5.heap.size (some ⟨bp, op + 1, none⟩) (k - 1) ((p.take k).drop 1) from by
            by_cases h9 : 1 < k
            · exact HP5.out.rd.part (by omega) (Nat.le_refl _) h9
            · obtain rfl : k = 1 := by omega
              have : p.length = 1 := HP5.out.len
              rw [List.drop_eq_nil_of_le (by rw [List.length_take]; omega)]
              exact Rd.nil _ _ _ _)
          by_cases hcp : cp = 1
          · obtain rfl : k = 1 := by omega
            subst hcp
            clear HR6
            go_wp2
            refine bodyPost_ret (v := .tuple #[.int .i64 lf, .int .i64 j, .int .i64 m, .slice (some ⟨bp, op, none⟩) 0 0]) (by simp [results, Try.results18, go_sem]) rfl ⟨lf, j, m, _, 0, _, _, rfl, hlf, hii, hmi, by omega, Rd.nil _ _ _ _, HBB.out⟩
          · go_wp2
            refine bodyPost_ret (v := .tuple #[.int .i64 lf, .int .i64 j, .int .i64 m, .slice (some ⟨bp, op + 1, none⟩) (k - 1) (cp - 1)]) (by simp [results, Try.results18, go_sem]) rfl ⟨lf, j, m, _, k - 1, _, _, rfl, hlf, hii, hmi, by omega, HR6.out, HBB.out⟩
        · have HR6 := Lib.hid HP5.out.rd
          go_wp2
          refine bodyPost_ret (v := .tuple #[.int .i64 lf, .int .i64 j, .int .i64 m, .slice Ap k cp]) (by simp [results, Try.results18, go_sem]) rfl ⟨lf, j, m, _, k, _, _, rfl, hlf, hii, hmi, by omega, HR6.out, HBB.out⟩
      · have qb1 : (y == 1) = false := beq_eq_false_iff_ne.2 q1
        by_cases q2 : y = 2
        · subst q2
          have HI := Lib.hid (IRow.new (w := w5) (g := g) (cs := #[.int .i64 0, .int .i64 12, .int .i64 13, .int .i64 (-1)]) (t := 3) (n := 4) HC5.out.lt (by decide +kernel) rfl)
          have HCA := Lib.hid (HC5.out.alloc (.cells #[.int .i64 0, .int .i64 12, .int .i64 13, .int .i64 (-1)] 3))
          have HKA := Lib.hid ((Kept.refl g w5).alloc (.cells #[.int .i64 0, .int .i64 12, .int .i64 13, .int .i64 (-1)] 3))
          go_wp2_with fail
          refine (l1Int_any _ _ _ (by omega) _ w.heap.size g HCA.out HI.out).mono ?_
          rintro e w6 ⟨v, ⟨z, hz, rfl⟩, rfl, hc6, hk6⟩
          have HK6 := Lib.hid (HKA.out.trans hk6)
          have HR6 := Lib.hid (ownI_kept HP5.out HK6.out hg3).top.rd
          have HB6 := Lib.hid (HBB.out.trans (HK6.out.below hg0 (by omega)))
          clear hc6 hk6
          go_wp2
          refine bodyPost_ret (v := .tuple #[.int .i64 lf, .int .i64 j, .int .i64 z, .slice Ap k cp]) (by simp [results, Try.results18, go_sem]) rfl ⟨lf, j, z, _, k, _, _, rfl, hlf, hii, in_wf hz, by omega, HR6.out, HB6.out⟩
        · have qb2 : (y == 2) = false := beq_eq_false_iff_ne.2 q2
          have HR6 := Lib.hid HP5.out.rd
          go_wp2
          refine bodyPost_ret (v := .tuple #[.int .i64 lf, .int .i64 j, .int .i64 m, .slice Ap k cp]) (by simp [results, Try.results18, go_sem]) rfl ⟨lf, j, m, _, k, _, _, rfl, hlf, hii, hmi, by omega, HR6.out, HBB.out⟩
end Go.Proofs.Ytcpfdhammhcoaaa.D10
