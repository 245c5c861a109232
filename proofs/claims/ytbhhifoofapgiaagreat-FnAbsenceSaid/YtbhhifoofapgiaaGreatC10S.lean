/- Chapter 10: hash trees, what the model's functions return. -/
import Derived.Test.YtbhhifoofapgiaaGreatC08S
import Derived.Test.YtbhhifoofapgiaaGreatM10
import Derived.Test.YtbhhifoofapgiaaGreatQ08
import Derived.Test.YtbhhifoofapgiaaGreatC03H
import Derived.Deep.RegionLaw
namespace Go.Proofs.YtbhhifoofapgiaaGreat.C10S
open Go.RowKit Mem MemS M02 M03 M05 M08 M10 C01 C02 C03S C03H C08S Rep RW R08 Q08 RKA
set_option linter.unusedVariables false
set_option maxRecDepth 100000
theorem own_lit (k : IntKind) (w : World) {lo b n : Nat} {zs : List Int} {cs : Array Value} {ty : TypeId} (hb : b = w.heap.size) (hc : cs = (zs.map (Value.int k)).toArray) (hty : ty = ety k) (hn : zs.length = n) (hz : ∀ z ∈ zs, In k z) (hl : lo ≤ w.heap.size) (hm : n ≤ maxLen) :
    Own k (w.alloc (.cells cs ty)) lo (b + 1) (some ⟨b, 0, none⟩) n n zs := by
  subst hb hc hty hn
  exact ⟨rfl, hz, by have := World.ownsRow_lit (base := lo) (e := ety k) (size := 1) w (zs.map (Value.int k)).toArray zs.length hl hm (by simp); simpa using this, fun a e => by injection e with e; subst e; simp⟩
def slLen : Value → Nat
  | .slice _ n _ => n
  | _ => 0
theorem sNodeOf_any (a b : Int) (w : World) (ha : In .i64 a) (hb : In .i64 b) : Calls Tryz.prog 107 #[.int .i64 a, .int .i64 b] w fun e w' => e = .returned (.int .i64 (nodeOf a b)) ∧ Below w.heap.size w w' := by
  have H0 := Lib.hid (own_lit .i64 w (b := w.heap.size) (cs := #[.int .i64 229, .int .i64 a, .int .i64 b]) (ty := 3) (zs := [229, a, b]) (n := 3) (lo := w.heap.size) rfl rfl rfl rfl (by
    intro z hz
    simp only [List.mem_cons, List.not_mem_nil, or_false] at hz
    rcases hz with rfl | rfl | rfl
    · exact inI64 (by omega) (by omega)
    · exact ha
    · exact hb) (Nat.le_refl _) (by simp [maxLen]))
  have HB := Lib.hid ((Below.refl w.heap.size w).alloc (Nat.le_refl _) (.cells #[.int .i64 229, .int .i64 a, .int .i64 b] 3))
  have HR := Lib.hid H0.out.rd
  go_enter Tryz.func107, Tryz.ntmps107
  go_wp2_with fail
  refine (sHash_any _ _ _ _ _ _ HR.out (by omega)).mono ?_
  rintro e w1 ⟨rfl, rfl⟩
  go_wp2
  go_ret
  exact ⟨rfl, HB.out⟩
theorem sl10Root_any (a b : Int) (w : World) (ha : In .i64 a) (hb : In .i64 b) : Calls Tryz.prog 75 #[.int .i64 a, .int .i64 b] w fun e w' => e = .returned (.int .i64 (rootN a b)) ∧ Below w.heap.size w w' := by
  have H0 := Lib.hid (own_lit .i64 w (b := w.heap.size) (cs := #[.int .i64 231, .int .i64 a, .int .i64 b]) (ty := 3) (zs := [231, a, b]) (n := 3) (lo := w.heap.size) rfl rfl rfl rfl (by
    intro z hz
    simp only [List.mem_cons, List.not_mem_nil, or_false] at hz
    rcases hz with rfl | rfl | rfl
    · exact inI64 (by omega) (by omega)
    · exact ha
    · exact hb) (Nat.le_refl _) (by simp [maxLen]))
  have HB := Lib.hid ((Below.refl w.heap.size w).alloc (Nat.le_refl _) (.cells #[.int .i64 231, .int .i64 a, .int .i64 b] 3))
  have HR := Lib.hid H0.out.rd
  go_enter Tryz.func75, Tryz.ntmps75
  go_wp2_with fail
  refine (sHash_any _ _ _ _ _ _ HR.out (by omega)).mono ?_
  rintro e w1 ⟨rfl, rfl⟩
  go_wp2
  go_ret
  exact ⟨rfl, HB.out⟩
theorem node_in (a b : Int) : In .i64 (nodeOf a b) := by have := hsh_range [229, a, b]; unfold nodeOf; exact inI64 (by omega) (by omega)
set_option maxHeartbeats 1000000 in
theorem sl10Up_any (A : Option Addr) (n c : Nat) (l : List Int) (w : World) (h : Rd .i64 w w.heap.size A n l) (hn : n ≤ 1099511627776) :
    Calls Tryz.prog 90 #[.slice A n c] w fun e w' => ∃ A' c', e = .returned (.slice A' (up l).length c') ∧ Own .i64 w' w.heap.size w'.heap.size A' (up l).length c' (up l) ∧ Below w.heap.size w w' := by
  have HL := Lib.hid h.len
  have HR := Lib.hid h
  have HWF := Lib.hid h.wf
  have HO := Lib.hid (Own.lit0 .i64 (lo := w.heap.size) w (Nat.le_refl _))
  have HB := Lib.hid ((Below.refl w.heap.size w).alloc (Nat.le_refl _) (.cells #[] 3))
  have HUL := Lib.hid (fun i => up_len (l.take i))
  clear h
  go_enter Tryz.func90, Tryz.ntmps90
  go_wp2
  go_loopw [3, 4] (fun o v wr => ∃ (i : Nat) (A1 : Option Addr) (c1 : Nat), i ≤ n + 1 ∧ i % 2 = 0 ∧ v = .int .i64 i ∧ o = .slice A1 (up (l.take i)).length c1 ∧ Own .i64 wr w.heap.size wr.heap.size A1 (up (l.take i)).length c1 (up (l.take i)) ∧ Below w.heap.size w wr) (fun _ v _ => n + 1 - (intOf v).toNat)
  case atStart => exact ⟨0, _, 0, by omega, rfl, rfl, rfl, HO.out.top, HB.out⟩
  case round =>
    obtain ⟨i, A1, c1, hi, hev, rfl, rfl, hown, hbel⟩ := hrel
    have HX := Lib.hid hbel
    have HO1 := Lib.hid hown
    have HEV := Lib.hid hev
    have hul := HUL.out i
    rw [List.length_take] at hul
    clear hbel hown hev
    by_cases hin : i < n
    · obtain ⟨b, off, rfl, hlt, hcc⟩ := (HR.out.below HX.out (Nat.le_refl _)).cells (by omega)
      have d0 := hcc i hin
      by_cases hi2 : i + 1 < n
      · have d1 := hcc (i + 1) hi2
        have hst := up_two (l := l) (i := i) (by rw [HL.out]; exact hi2) HEV.out
        have hx := getD_in HWF.out (show i < l.length by rw [HL.out]; exact hin)
        have hy := getD_in HWF.out (show i + 1 < l.length by rw [HL.out]; exact hi2)
        generalize l.getD i 0 = x at d0 hst hx
        generalize l.getD (i + 1) 0 = y at d1 hst hy
        generalize hsb : up (l.take i) = sb at HO1 hst hul
        have hsl : sb.length ≤ 1099511627776 := by omega
        have HS := Lib.hid hst
        have HI := Lib.hid (node_in x y)
        have HK := Lib.hid (sNodeOf_any x y wr.drew hx hy)
        generalize nodeOf x y = z at HS HI HK
        have hi3 : (i : Int) + 1 < n := by omega
        have hi4 : ((i + 1 : Nat) : Int) < n := by omega
        have e0 : wr.drew.cell? ⟨b, off + i, none⟩ = some (.int .i64 x) := d0
        have e1 : wr.drew.cell? ⟨b, off + (i + 1), none⟩ = some (.int .i64 y) := d1
        have HXd := Lib.hid (show Below w.heap.size w wr.drew from HX.out.drew)
        have HOd := Lib.hid (show Own .i64 wr.drew w.heap.size wr.drew.heap.size A1 sb.length c1 sb from HO1.out.keep fun i _ _ _ => rfl)
        have hi6 : 0 ≤ (i : Int) + 1 := by omega
        have hi5 : IntKind.i64.wrap ((i : Int) + 1) = ((i + 1 : Nat) : Int) := by rw [IntKind.wrap_i64]; omega
        clear hcc hst hx hy hsb hul hlt d0 d1
        go_wp2_with fail
        go_region_law ((first
          | (go_simp; go_at_call 107; refine HK.out.mono ?_; rintro e w2 ⟨rfl, hb2⟩; have HX2 := Lib.hid (HXd.out.trans (hb2.mono HXd.out.size)); have HO2 := Lib.hid (HOd.out.below hb2 (Nat.le_refl _)).top; clear hb2)
          | (refine step_app (k := .i64) (by unfold BI; decide) rfl (.tmp 17) (.tmp 28) rfl rfl (HO2.out.alloc _) rfl (rd_new .i64 w2 HI.out) (by omega) (by have := HX2.out.size; simp; omega) ?_; intro A4 c4 w4 hown4 hgr4)))
        all_goals
          have HB4 := Lib.hid ((HX2.out.alloc HX2.out.size _).trans (hgr4.below (by have := HX2.out.size; simp; omega) HO2.out.ge))
          have HO4 := Lib.hid hown4
          clear hown4 hgr4 e0 e1
          go_wp2
          go_roundw
          case rel => exact ⟨i + 2, A4, c4, by omega, by have := HEV.out; omega, by go_num, by rw [HS.out, List.length_append]; rfl, by rw [HS.out, List.length_append]; exact HO4.out, HB4.out⟩
          case measure => simp [intOf]; omega
      · have hst := up_one (l := l) (i := i) (by rw [HL.out]; omega) HEV.out
        have hx := getD_in HWF.out (show i < l.length by rw [HL.out]; exact hin)
        generalize l.getD i 0 = x at d0 hst hx
        generalize hsb : up (l.take i) = sb at HO1 hst hul
        have hsl : sb.length ≤ 1099511627776 := by omega
        have HS := Lib.hid hst
        have HI := Lib.hid hx
        have hi3 : ¬ (i : Int) + 1 < n := by omega
        clear hcc hst hx hsb hul hlt
        go_wp2_with (at_builtin; refine wp_push (k := .i64) (z := x) (by unfold BI; decide) rfl _ _ rfl rfl HO1.out rfl HI.out (by omega) HX.out.size ?_; intro A4 c4 w4 hown4 hgr4)
        have HB4 := Lib.hid (HX.out.trans (hgr4.below HX.out.size HO1.out.ge))
        have HO4 := Lib.hid hown4
        clear hown4 hgr4 d0
        go_wp2
        go_roundw
        case rel => exact ⟨i + 2, A4, c4, by omega, by have := HEV.out; omega, by go_num, by rw [HS.out, List.length_append]; rfl, by rw [HS.out, List.length_append]; exact HO4.out, HB4.out⟩
        case measure => simp [intOf]; omega
    · rw [List.take_of_length_le (by rw [HL.out]; omega)] at HO1
      rw [List.take_of_length_le (by rw [HL.out]; omega)]
      clear hul
      go_wp2
      go_ret
      exact ⟨A1, c1, rfl, HO1.out, HX.out⟩
set_option maxHeartbeats 1000000 in
theorem sTopOf_any (A : Option Addr) (n c : Nat) (l : List Int) (w : World) (h : Rd .i64 w w.heap.size A n l) (hn : n ≤ 1099511627776) :
    Calls Tryz.prog 76 #[.slice A n c] w fun e w' => e = .returned (.int .i64 (topOf l)) ∧ Below w.heap.size w w' := by
  have HL := Lib.hid h.len
  by_cases h0 : n = 0
  · subst h0
    have HT := Lib.hid (show topOf l = hsh [229] from by unfold topOf; rw [if_pos HL.out])
    have H0 := Lib.hid (own_lit .i64 w (b := w.heap.size) (cs := #[.int .i64 229]) (ty := 3) (zs := [229]) (n := 1) (lo := w.heap.size) rfl rfl rfl rfl (by intro z hz; rw [List.mem_singleton.1 hz]; exact inI64 (by omega) (by omega)) (Nat.le_refl _) (by simp [maxLen])).rd
    have HB := Lib.hid ((Below.refl w.heap.size w).alloc (Nat.le_refl _) (.cells #[.int .i64 229] 3))
    clear h
    rw [HT.out]
    go_enter Tryz.func76, Tryz.ntmps76
    go_wp2_with fail
    refine (sHash_any _ _ _ _ _ _ H0.out (by omega)).mono ?_
    rintro e w1 ⟨rfl, rfl⟩
    go_wp2
    go_ret
    exact ⟨rfl, HB.out⟩
  · have HT := Lib.hid (show topOf l = topW l from by unfold topOf; rw [if_neg (by rw [HL.out]; exact h0)])
    have HR := Lib.hid h
    have h1 : ¬ (n : Int) = 0 := by omega
    have h1b : ((n : Int) == 0) = false := beq_eq_false_iff_ne.2 h1
    have h1n : ¬ n = 0 := h0
    clear h
    rw [HT.out]
    go_enter Tryz.func76, Tryz.ntmps76
    go_wp2
    go_loopw [3] (fun v wr => ∃ (l' : List Int) (A' : Option Addr) (n' c' : Nat), v = .slice A' n' c' ∧ Rd .i64 wr wr.heap.size A' n' l' ∧ 0 < n' ∧ n' ≤ n ∧ topW l' = topW l ∧ Below w.heap.size w wr) (fun v _ => slLen v)
    case atStart => exact ⟨l, A, n, c, rfl, HR.out, by omega, Nat.le_refl _, rfl, Below.refl _ _⟩
    case round =>
      obtain ⟨l', A', n', c', rfl, hr, hp, hle, ht, hbel⟩ := hrel
      have HX := Lib.hid hbel
      have HR1 := Lib.hid hr
      have HTT := Lib.hid ht
      have hl' := hr.len
      clear hbel hr ht
      by_cases h2 : 1 < n'
      · have hul := up_len l'
        have hU := sl10Up_any A' n' c' l' wr HR1.out (by omega)
        have HU := Lib.hid hU
        have HTU := Lib.hid (topW_up (l := l') (by omega))
        generalize hul' : up l' = l2 at HU HTU hul
        have hu1 : l2.length < n' := by omega
        have hu2 : 0 < l2.length := by omega
        clear hU hul hul' hl'
        go_wp2_with fail
        refine HU.out.mono ?_
        rintro e w2 ⟨A2, c2, rfl, ho2, hb2⟩
        have HX2 := Lib.hid (HX.out.trans (hb2.mono HX.out.size))
        have HO2 := Lib.hid ho2.rd
        clear ho2 hb2
        go_wp2
        go_roundw
        case rel => exact ⟨l2, A2, l2.length, c2, rfl, HO2.out, hu2, by omega, HTU.out.trans HTT.out, HX2.out⟩
        case measure => simp [slLen]; omega
      · obtain rfl : n' = 1 := by omega
        obtain ⟨b, off, rfl, hlt, hcc⟩ := HR1.out.cells (by omega)
        have d0 : wr.cell? ⟨b, off, none⟩ = some (.int .i64 (l'.getD 0 0)) := hcc 0 (by omega)
        have HE := Lib.hid (show topW l = l'.getD 0 0 from by rw [← HTT.out, topW_one (by omega)])
        generalize l'.getD 0 0 = x at d0 HE
        clear hcc hl'
        go_wp2
        go_ret
        exact ⟨by rw [HE.out]; rfl, HX.out⟩
set_option maxHeartbeats 1000000 in
theorem sLeavesOf_any (A : Option Addr) (n c : Nat) (l : List Entry) (w : World) (h : FRdEntry w w.heap.size A n l) (hn : totR totEntry l ≤ 1048576) :
    Calls Tryz.prog 59 #[.slice A n c] w fun e w' => ∃ A' c', e = .returned (.slice A' n c') ∧ Own .i64 w' w.heap.size w'.heap.size A' n c' (leavesE l) ∧ Below w.heap.size w w' := by
  have HL := Lib.hid h.len
  have HT := Lib.hid hn
  have hn2 : n ≤ 1048576 := by have := totR_len totEntry l; have := h.len; omega
  have HR := Lib.hid h
  have HO := Lib.hid (Own.lit0 .i64 (lo := w.heap.size) w (Nat.le_refl _))
  have HB := Lib.hid ((Below.refl w.heap.size w).alloc (Nat.le_refl _) (.cells #[] 3))
  clear h hn
  go_enter Tryz.func59, Tryz.ntmps59
  go_wp2
  go_loopw [3, 4] (fun o i wr => ∃ (j : Nat) (A1 : Option Addr) (c1 : Nat), j ≤ n ∧ i = .int .i64 j ∧ o = .slice A1 j c1 ∧ Own .i64 wr w.heap.size wr.heap.size A1 j c1 (leavesE (l.take j)) ∧ Below w.heap.size w wr) (fun _ i _ => n - (intOf i).toNat)
  case atStart => exact ⟨0, _, 0, by omega, rfl, rfl, HO.out.top, HB.out⟩
  case round =>
    obtain ⟨j, A1, c1, hj, rfl, rfl, hown, hbel⟩ := hrel
    have HX := Lib.hid hbel
    have HO1 := Lib.hid hown
    clear hbel hown
    by_cases hjn : j < n
    · obtain ⟨b, off, cs, rfl, hlt, hrd, hcc⟩ := (HR.out.below HX.out (Nat.le_refl _)).at hjn
      obtain ⟨z, hz⟩ : ∃ z, z = l.getD j default := ⟨_, rfl⟩
      rw [← hz] at hrd
      have htz : totEntry z ≤ totR totEntry l := by rw [hz]; exact totR_mem totEntry (by rw [HL.out]; exact hjn)
      have hrd2 := REntry.more hrd fun i hi => Nat.lt_of_lt_of_le hi HX.out.size
      have HSN := Lib.hid (show leavesE (l.take (j + 1)) = leavesE (l.take j) ++ [leafOf z] from by
        unfold leavesE
        rw [List.take_succ_eq_append_getElem (show j < l.length by rw [HL.out]; exact hjn), List.map_append, hz]
        simp [List.getD, show j < l.length by rw [HL.out]; exact hjn])
      have hK := sLeafOf_any cs z wr hrd2 (by have := HT.out; omega)
      obtain ⟨A3, n3, c3, rfl, -⟩ := REntry_rd.1 hrd2
      have d0 : wr.cell? ⟨b, off + j * 4, none⟩ = some (.string z.label) := hcc 0 (by decide)
      have d1 : wr.cell? ⟨b, off + j * 4 + 1, none⟩ = some (.int .i64 z.kind) := hcc 1 (by decide)
      have d2 : wr.cell? ⟨b, off + j * 4 + 2, none⟩ = some (.int .i64 z.value) := hcc 2 (by decide)
      have d3 : wr.cell? ⟨b, off + j * 4 + 3, none⟩ = some (.slice A3 n3 c3) := hcc 3 (by decide)
      have HI := Lib.hid (show In .i64 (leafOf z) from by have := hsh_range (227 :: entryInts z); unfold leafOf; exact inI64 (by omega) (by omega))
      have HK := Lib.hid hK
      clear hcc hrd hrd2 hz htz hlt hK
      generalize leafOf z = lf at HSN HI HK
      obtain ⟨z0, z1, z2, z3⟩ := z
      simp only at d0 d1 d2 HK
      go_wp2_with fail
      refine HK.out.mono ?_
      rintro e w2 ⟨rfl, hb2⟩
      have HX2 := Lib.hid (HX.out.trans (hb2.mono HX.out.size))
      have HO2 := Lib.hid (HO1.out.below hb2 (Nat.le_refl _)).top
      clear hb2 d0 d1 d2 d3
      go_wp2_with (at_builtin; refine wp_push (k := .i64) (z := lf) (by unfold BI; decide) rfl _ _ rfl rfl HO2.out rfl HI.out (by omega) HX2.out.size ?_; intro A4 c4 w4 hown4 hgr4)
      have HB4 := Lib.hid (HX2.out.trans (hgr4.below HX2.out.size HO2.out.ge))
      have HO4 := Lib.hid hown4
      clear hown4 hgr4
      go_wp2
      go_roundw
      case rel => exact ⟨j + 1, A4, c4, by omega, by go_num, rfl, by rw [HSN.out]; exact HO4.out, HB4.out⟩
      case measure => simp [intOf]; omega
    · obtain rfl : j = n := by omega
      rw [List.take_of_length_le (by rw [HL.out]; omega)] at HO1
      go_wp2
      go_ret
      exact ⟨A1, c1, rfl, HO1.out, HX.out⟩
theorem top_in (l : List Int) (h : ∀ z ∈ l, In .i64 z) : In .i64 (topOf l) := by
  have key : ∀ (k : Nat) (l : List Int), l.length ≤ k → (∀ z ∈ l, In .i64 z) → In .i64 (topW l) := by
    intro k
    induction k with
    | zero =>
      intro l hl h
      rw [topW_one (by omega), List.eq_nil_of_length_eq_zero (l := l) (by omega)]
      exact inI64 (by simp) (by simp)
    | succ k ih =>
      intro l hl h
      by_cases h1 : 1 < l.length
      · rw [← topW_up h1]
        refine ih _ (by have := up_len l; omega) ?_
        have : ∀ (l : List Int), (∀ z ∈ l, In .i64 z) → ∀ z ∈ up l, In .i64 z := by
          intro l
          induction l using up.induct with
          | case1 => intro _ z hz; simp [up] at hz
          | case2 a => intro h z hz; exact h z (by simpa [up] using hz)
          | case3 a b r ih =>
            intro h z hz
            rcases List.mem_cons.1 hz with rfl | hz
            · exact node_in a b
            · exact ih (fun y hy => h y (by simp [hy])) z hz
        exact this l h
      · rw [topW_one h1]
        rcases l with _ | ⟨a, r⟩
        · exact inI64 (by simp) (by simp)
        · exact h a (by simp)
  unfold topOf
  split
  · have := hsh_range [229]
    exact inI64 (by omega) (by omega)
  · exact key l.length l (Nat.le_refl _) h
theorem sRootOf_any (A : Option Addr) (n c : Nat) (l : List Entry) (w : World) (h : FRdEntry w w.heap.size A n l) (hn : totR totEntry l ≤ 1048576) :
    Calls Tryz.prog 42 #[.slice A n c] w fun e w' => e = .returned (.int .i64 (rootOf l)) ∧ Below w.heap.size w w' := by
  have hl := h.len
  have hn2 : n ≤ 1048576 := by have := totR_len totEntry l; omega
  have HT := Lib.hid (show rootOf l = rootN n (topOf (leavesE l)) from by unfold rootOf; rw [hl])
  have HK := Lib.hid (sLeavesOf_any A n c l w h hn)
  rw [HT.out]
  generalize leavesE l = lv at HK HT
  clear h hl
  go_enter Tryz.func42, Tryz.ntmps42
  go_wp2_with fail
  refine HK.out.mono ?_
  rintro e w1 ⟨A1, c1, rfl, ho1, hb1⟩
  have HI := Lib.hid (top_in lv ho1.wf)
  have HK2 := Lib.hid (sTopOf_any A1 n c1 lv w1 ho1.rd (by omega))
  have HB1 := Lib.hid hb1
  obtain ⟨tp, htp⟩ : ∃ tp, tp = topOf lv := ⟨_, rfl⟩
  rw [← htp] at HI HK2
  have HTP := Lib.hid htp
  clear htp
  clear ho1 hb1
  go_wp2_with fail
  refine HK2.out.mono ?_
  rintro e w2 ⟨rfl, hb2⟩
  have HB2 := Lib.hid (HB1.out.trans (hb2.mono HB1.out.size))
  clear hb2
  go_wp2_with fail
  refine (sl10Root_any n tp w2 (inI64 (by omega) (by omega)) HI.out).mono ?_
  rintro e w3 ⟨rfl, hb3⟩
  have HB3 := Lib.hid (HB2.out.trans (hb3.mono HB2.out.size))
  clear hb3
  go_wp2
  go_ret
  exact ⟨by rw [← HTP.out]; rfl, HB3.out⟩
theorem rd_one {k : IntKind} {w w' : World} {B n : Nat} {A : Option Addr} {zs : List Int} (h : Rd k w B A n zs) (hk : ∀ a, A = some a → w'.heap[a.block]? = w.heap[a.block]?) : Rd k w' B A n zs :=
  ⟨h.len, h.wf, fun hn => by
    obtain ⟨b, off, e, hlt, hc⟩ := h.cells hn
    exact ⟨b, off, e, hlt, fun j hj => (World.cell?_of_block (a := ⟨b, off + j, none⟩) (by have := hk _ e; exact this)).trans (hc j hj)⟩⟩
theorem gr_one {A A' : Option Addr} {w w' : World} (h : Gr A w A' w') {b : Nat} (hb : b < w.heap.size) (hne : ∀ a, A = some a → b ≠ a.block) : w'.heap[b]? = w.heap[b]? :=
  h.1.block b hb fun e => by
    cases A with
    | none => cases e
    | some a =>
      injection e with e
      exact hne a rfl e
set_option maxHeartbeats 2000000 in
theorem sPathFor_any (A : Option Addr) (n c : Nat) (l : List Int) (i : Int) (w : World) (h : Rd .i64 w w.heap.size A n l) (hn : n ≤ 1099511627776) :
    Calls Tryz.prog 58 #[.slice A n c, .int .i64 i] w fun e w' => ∃ A' c', e = .returned (.slice A' (pathFor l i).length c') ∧ Own .i64 w' w.heap.size w'.heap.size A' (pathFor l i).length c' (pathFor l i) ∧ Below w.heap.size w w' := by
  have HL := Lib.hid h.len
  have HO := Lib.hid (Own.lit0 .i64 (lo := w.heap.size) w (Nat.le_refl _))
  have HB := Lib.hid ((Below.refl w.heap.size w).alloc (Nat.le_refl _) (.cells #[] 3))
  have HR := Lib.hid (h.alloc (Nat.le_refl _) (.cells #[] 3))
  clear h
  rcases hin : inR i 0 ((n : Int) - 1) with _ | _
  · have HP := Lib.hid (show pathFor l i = [] from by unfold pathFor; rw [HL.out, hin]; rfl)
    have hK := fun w1 => l1In_any i 0 ((n : Int) - 1) w1
    rw [hin] at hK
    have HK := Lib.hid hK
    clear hK hin
    rw [HP.out]
    go_enter Tryz.func58, Tryz.ntmps58
    go_wp2_with fail
    refine (HK.out _).mono ?_
    rintro e w1 ⟨rfl, rfl⟩
    go_wp2
    go_ret
    exact ⟨_, 0, rfl, HO.out.top, HB.out⟩
  · have hK := fun w1 => l1In_any i 0 ((n : Int) - 1) w1
    rw [hin] at hK
    have HK := Lib.hid hK
    have hi0 : 0 ≤ i ∧ i ≤ (n : Int) - 1 := by unfold inR at hin; simpa using hin
    obtain ⟨k, rfl⟩ : ∃ k : Nat, i = k := ⟨i.toNat, by omega⟩
    have HP := Lib.hid (show pathFor l (k : Int) = pathW l k from by unfold pathFor; rw [HL.out, hin]; simp)
    have hkn : k < n := by omega
    clear hK hin hi0
    rw [HP.out]
    go_enter Tryz.func58, Tryz.ntmps58
    go_wp2_with fail
    refine (HK.out _).mono ?_
    rintro e w1 ⟨rfl, rfl⟩
    go_wp2
    go_loopw [1, 5, 6] (fun iv ov lv wr => ∃ (k' : Nat) (l' o : List Int) (A' : Option Addr) (n' c' : Nat) (A1 : Option Addr) (c1 : Nat), iv = .int .i64 k' ∧ ov = .slice A1 o.length c1 ∧ lv = .slice A' n' c' ∧ Rd .i64 wr wr.heap.size A' n' l' ∧ (0 < n' ∧ n' ≤ n ∧ k' < n' ∧ o.length + n' ≤ n + 1) ∧ o ++ pathW l' k' = pathW l k ∧ Own .i64 wr w.heap.size wr.heap.size A1 o.length c1 o ∧ (∀ a a1, A' = some a → A1 = some a1 → a.block ≠ a1.block) ∧ Below w.heap.size w wr) (fun _ _ v _ => slLen v)
    case atStart => exact ⟨k, l, [], A, n, c, _, 0, rfl, rfl, rfl, HR.out.more (by simp), ⟨by omega, by omega, hkn, by simp⟩, rfl, HO.out.top, fun a a1 h1 h2 => by
      obtain ⟨b, off, e, hb, _⟩ := HR.out.cells (by omega)
      rw [e] at h1
      injection h1 with h1
      injection h2 with h2
      subst h1 h2
      simp only
      omega, HB.out⟩
    case round =>
      obtain ⟨k', l', o, A', n', c', A1, c1, rfl, rfl, rfl, hr, ⟨hp1, hp2, hp3, hp4⟩, hpw, hown, hdj, hbel⟩ := hrel
      have HX := Lib.hid hbel
      have HR1 := Lib.hid hr
      have HO1 := Lib.hid hown
      have HD := Lib.hid hdj
      have hl' := hr.len
      clear hbel hr hown hdj
      by_cases h2 : 1 < n'
      · have hpu := pathW_up (l := l') (i := k') (by omega)
        rw [hpu] at hpw
        have hul := up_len l'
        obtain ⟨k2, hk2⟩ : ∃ k2, k2 = k' / 2 := ⟨_, rfl⟩
        rw [← hk2] at hpw
        have hd : Int.tdiv (k' : Int) 2 = (k2 : Int) := by rw [hk2]; exact (Int.tdiv_eq_ediv_of_nonneg (by omega)).trans (by omega)
        have hk2n : k2 < (up l').length := by omega
        have hk2b : k2 ≤ 1099511627776 := by omega
        have hu1 : (up l').length < n' := by omega
        have hWF := HR1.out.wf
        obtain ⟨b, off, rfl, hlt, hcc⟩ := HR1.out.cells (by omega)
        obtain ⟨s, hs⟩ : ∃ s, s = sib k' := ⟨_, rfl⟩
        rw [← hs] at hpw
        have hsb : s ≤ 1099511627777 := by rw [hs]; unfold sib; split <;> omega
        by_cases hsn : s < n'
        · rw [if_pos (by omega)] at hpw
          have d0 := hcc s hsn
          have hx := getD_in hWF (show s < l'.length by omega)
          generalize l'.getD s 0 = x at d0 hx hpw
          have HI := Lib.hid hx
          have HPW := Lib.hid (show (o ++ [x]) ++ pathW (up l') k2 = pathW l k from by rw [← hpw]; simp)
          have HU := Lib.hid (fun w1 (hr : Rd .i64 w1 w1.heap.size (some ⟨b, off, none⟩) n' l') => sl10Up_any (some ⟨b, off, none⟩) n' c' l' w1 hr (by omega))
          generalize hup : up l' = l2 at HU HPW hk2n hu1 hul
          have hol : o.length ≤ 1099511627777 := by omega
          have HNN := Lib.hid (show k2 < l2.length ∧ l2.length < n' ∧ o.length + n' ≤ n + 1 ∧ n' ≤ n from ⟨hk2n, hu1, hp4, hp2⟩)
          have HBL := Lib.hid hlt
          have hsI : (s : Int) < n' := by omega
          clear hcc hx hpw hpu hul hup hk2 hWF hlt hl'
          by_cases hpar : k' % 2 = 1
          · have hm : Int.tmod (k' : Int) 2 = 1 := by rw [Int.tmod_eq_emod_of_nonneg (by omega)]; omega
            have hsv : (k' : Int) + 1 - 2 = (s : Int) := by rw [hs]; unfold sib; rw [if_pos hpar]; omega
            clear hs hpar
            clear hk2n hu1 hp4
            go_wp2_with (at_builtin; refine wp_push (k := .i64) (z := x) (by unfold BI; decide) rfl _ _ rfl rfl HO1.out rfl HI.out (by omega) HX.out.size ?_; intro A4 c4 w4 hown4 hgr4)
            have HB4 := Lib.hid (HX.out.trans (hgr4.below HX.out.size HO1.out.ge))
            have HO4 := Lib.hid hown4
            have HR4 := Lib.hid ((rd_one HR1.out fun a e => gr_one hgr4 (by injection e with e; subst e; exact HBL.out) fun a1 e1 => HD.out a a1 e e1).more hgr4.1.size)
            clear hown4 hgr4 d0
            go_wp2_with fail
            refine (HU.out _ HR4.out).mono ?_
            rintro e w2 ⟨A2, c2, rfl, ho2, hb2⟩
            have HX2 := Lib.hid (HB4.out.trans (hb2.mono HB4.out.size))
            have HO2 := Lib.hid (HO4.out.below hb2 (Nat.le_refl _))
            have HR2 := Lib.hid ho2.rd
            have HGE := Lib.hid (Rep.Own.ge ho2)
            have HHI := Lib.hid HO4.out.hi
            clear ho2 hb2
            go_wp2
            go_roundw
            case rel => exact ⟨k2, l2, o ++ [x], A2, l2.length, c2, A4, c4, by go_num, by rw [List.length_append]; rfl, rfl, HR2.out, ⟨by have := HNN.out; omega, by have := HNN.out; omega, HNN.out.1, by have := HNN.out; rw [List.length_append, List.length_singleton]; omega⟩, HPW.out, by rw [List.length_append]; exact HO2.out.top, fun a a1 h1 h2 => by
              have := HGE.out a h1
              have := HHI.out a1 h2
              omega, HX2.out⟩
            case measure => have := HNN.out; simp [slLen]; omega
          · have hm : Int.tmod (k' : Int) 2 = 0 := by rw [Int.tmod_eq_emod_of_nonneg (by omega)]; omega
            have hsv : (k' : Int) + 1 = (s : Int) := by rw [hs]; unfold sib; rw [if_neg hpar]; omega
            clear hs hpar
            clear hk2n hu1 hp4
            go_wp2_with (at_builtin; refine wp_push (k := .i64) (z := x) (by unfold BI; decide) rfl _ _ rfl rfl HO1.out rfl HI.out (by omega) HX.out.size ?_; intro A4 c4 w4 hown4 hgr4)
            have HB4 := Lib.hid (HX.out.trans (hgr4.below HX.out.size HO1.out.ge))
            have HO4 := Lib.hid hown4
            have HR4 := Lib.hid ((rd_one HR1.out fun a e => gr_one hgr4 (by injection e with e; subst e; exact HBL.out) fun a1 e1 => HD.out a a1 e e1).more hgr4.1.size)
            clear hown4 hgr4 d0
            go_wp2_with fail
            refine (HU.out _ HR4.out).mono ?_
            rintro e w2 ⟨A2, c2, rfl, ho2, hb2⟩
            have HX2 := Lib.hid (HB4.out.trans (hb2.mono HB4.out.size))
            have HO2 := Lib.hid (HO4.out.below hb2 (Nat.le_refl _))
            have HR2 := Lib.hid ho2.rd
            have HGE := Lib.hid (Rep.Own.ge ho2)
            have HHI := Lib.hid HO4.out.hi
            clear ho2 hb2
            go_wp2
            go_roundw
            case rel => exact ⟨k2, l2, o ++ [x], A2, l2.length, c2, A4, c4, by go_num, by rw [List.length_append]; rfl, rfl, HR2.out, ⟨by have := HNN.out; omega, by have := HNN.out; omega, HNN.out.1, by have := HNN.out; rw [List.length_append, List.length_singleton]; omega⟩, HPW.out, by rw [List.length_append]; exact HO2.out.top, fun a a1 h1 h2 => by
              have := HGE.out a h1
              have := HHI.out a1 h2
              omega, HX2.out⟩
            case measure => have := HNN.out; simp [slLen]; omega
        · rw [if_neg (by omega), List.nil_append] at hpw
          have hpar : ¬ k' % 2 = 1 := fun hp => by rw [hs] at hsn; unfold sib at hsn; rw [if_pos hp] at hsn; omega
          have hm : Int.tmod (k' : Int) 2 = 0 := by rw [Int.tmod_eq_emod_of_nonneg (by omega)]; omega
          have hsv : (k' : Int) + 1 = (s : Int) := by rw [hs]; unfold sib; rw [if_neg hpar]; omega
          have hsI : ¬ (s : Int) < n' := by omega
          have HPW := Lib.hid hpw
          have HU := Lib.hid (sl10Up_any (some ⟨b, off, none⟩) n' c' l' wr HR1.out (by omega))
          generalize hup : up l' = l2 at HU HPW hk2n hu1 hul
          have HNN := Lib.hid (show k2 < l2.length ∧ l2.length < n' ∧ o.length + n' ≤ n + 1 ∧ n' ≤ n from ⟨hk2n, hu1, hp4, hp2⟩)
          clear hcc hpw hpu hul hup hk2 hWF hlt hl' hs hpar hk2n hu1 hp4
          go_wp2_with fail
          refine HU.out.mono ?_
          rintro e w2 ⟨A2, c2, rfl, ho2, hb2⟩
          have HX2 := Lib.hid (HX.out.trans (hb2.mono HX.out.size))
          have HO2 := Lib.hid (HO1.out.below hb2 (Nat.le_refl _))
          have HR2 := Lib.hid ho2.rd
          have HGE := Lib.hid (Rep.Own.ge ho2)
          have HHI := Lib.hid HO1.out.hi
          clear ho2 hb2
          go_wp2
          go_roundw
          case rel => exact ⟨k2, l2, o, A2, l2.length, c2, A1, c1, by go_num, rfl, rfl, HR2.out, ⟨by have := HNN.out; omega, by have := HNN.out; omega, HNN.out.1, by have := HNN.out; omega⟩, HPW.out, HO2.out.top, fun a a1 h1 h2 => by
            have := HGE.out a h1
            have := HHI.out a1 h2
            omega, HX2.out⟩
          case measure => have := HNN.out; simp [slLen]; omega
      · have hpu := pathW_one (l := l') (i := k') (by omega)
        rw [hpu, List.append_nil] at hpw
        have HPW := Lib.hid hpw
        clear hpw hpu hl'
        go_wp2
        go_ret
        exact ⟨A1, c1, by rw [← HPW.out]; rfl, by rw [← HPW.out]; exact HO1.out, HX.out⟩
theorem tf_of {leaf i m : Int} {p : List Int} {I M : Nat} (hi : i = I) (hm : m = M) (h1 : inR m 1 12 = true) (h2 : inR i 0 (m - 1) = true) {r : Option Int} (h : tfW leaf I M p = r) : topFrom leaf i m p = (r.getD 0, r.isSome) := by
  unfold topFrom
  rw [h1, h2]
  simp only [Bool.and_self, if_true]
  rw [hi, hm, Int.toNat_natCast, Int.toNat_natCast, h]
  cases r <;> rfl
theorem drop_cons {p : List Int} {u : Nat} (h : u < p.length) : p.drop u = p.getD u 0 :: p.drop (u + 1) := by
  rw [List.drop_eq_getElem_cons h]
  simp [List.getD, h]
set_option maxHeartbeats 4000000 in
theorem sTopFrom_any (leaf i m : Int) (A : Option Addr) (n c : Nat) (p : List Int) (w : World) (hlf : In .i64 leaf) (hii : In .i64 i) (hmm : In .i64 m) (h : Rd .i64 w w.heap.size A n p) (hn : n ≤ 1099511627776) :
    Calls Tryz.prog 81 #[.int .i64 leaf, .int .i64 i, .int .i64 m, .slice A n c] w fun e w' => e = .returned (.tuple #[.int .i64 (topFrom leaf i m p).1, .bool (topFrom leaf i m p).2]) ∧ Below w.heap.size w w' := by
  have HL := Lib.hid h.len
  have hi1 := hii.1
  have hi2 := hii.2
  have hm1 := hmm.1
  have hm2 := hmm.2
  have hK1 := fun w1 => l1In_any m 1 12 w1
  rcases ha : inR m 1 12 with _ | _
  · have HT := Lib.hid (show topFrom leaf i m p = (0, false) from by unfold topFrom; rw [ha]; rfl)
    rw [ha] at hK1
    have HK1 := Lib.hid hK1
    clear ha hK1 h hii hmm hlf
    rw [HT.out]
    go_enter Tryz.func81, Tryz.ntmps81
    go_wp2_with fail
    refine (HK1.out _).mono ?_
    rintro e w1 ⟨rfl, rfl⟩
    go_wp2
    go_ret2
    exact ⟨rfl, Below.refl _ _⟩
  · have hM : 1 ≤ m ∧ m ≤ 12 := by unfold inR at ha; simpa using ha
    have hK2 := fun w1 => l1In_any i 0 (m - 1) w1
    rw [ha] at hK1
    rcases hb : inR i 0 (m - 1) with _ | _
    · have HT := Lib.hid (show topFrom leaf i m p = (0, false) from by unfold topFrom; rw [ha, hb]; rfl)
      rw [hb] at hK2
      have HK1 := Lib.hid hK1
      have HK2 := Lib.hid hK2
      clear ha hb hK1 hK2 h hii hmm hlf
      rw [HT.out]
      go_enter Tryz.func81, Tryz.ntmps81
      go_wp2_with fail
      refine (HK1.out _).mono ?_
      rintro e w1 ⟨rfl, rfl⟩
      go_wp2_with fail
      refine (HK2.out _).mono ?_
      rintro e w1 ⟨rfl, rfl⟩
      go_wp2
      go_ret2
      exact ⟨rfl, Below.refl _ _⟩
    · have hI : 0 ≤ i ∧ i ≤ m - 1 := by unfold inR at hb; simpa using hb
      rw [hb] at hK2
      obtain ⟨I, rfl⟩ : ∃ I : Nat, i = I := ⟨i.toNat, by omega⟩
      obtain ⟨M, rfl⟩ : ∃ M : Nat, m = M := ⟨m.toNat, by omega⟩
      have HT := Lib.hid (fun r h => tf_of (leaf := leaf) (p := p) (I := I) (M := M) rfl rfl ha hb (r := r) h)
      have HR := Lib.hid h
      have HK1 := Lib.hid hK1
      have HK2 := Lib.hid hK2
      have HLF := Lib.hid hlf
      have hMM : M ≤ 12 := by omega
      have hM1 : 1 ≤ M := by omega
      have hIM : I < M := by omega
      obtain ⟨q, hq⟩ : ∃ q, q = topFrom leaf (I : Int) (M : Int) p := ⟨_, rfl⟩
      rw [← hq]
      have HQ := Lib.hid hq
      clear ha hb hK1 hK2 h hii hmm hlf hM hI hi1 hi2 hm1 hm2 hq
      go_enter Tryz.func81, Tryz.ntmps81
      go_wp2_with fail
      refine (HK1.out _).mono ?_
      rintro e w1 ⟨rfl, rfl⟩
      go_wp2_with fail
      refine (HK2.out _).mono ?_
      rintro e w1 ⟨rfl, rfl⟩
      go_wp2
      go_loopw [0, 1, 2, 10] (fun lv iv nv uv wr => ∃ (lf : Int) (I' M' u : Nat), lv = .int .i64 lf ∧ iv = .int .i64 I' ∧ nv = .int .i64 M' ∧ uv = .int .i64 u ∧ In .i64 lf ∧ (u ≤ n ∧ M' ≤ 12 ∧ 1 ≤ M' ∧ I' < M') ∧ tfW lf I' M' (p.drop u) = tfW leaf I M p ∧ Below w.heap.size w wr) (fun _ _ v _ _ => (intOf v).toNat)
      case atStart => exact ⟨leaf, I, M, 0, rfl, rfl, rfl, rfl, HLF.out, ⟨by omega, hMM, hM1, hIM⟩, rfl, Below.refl _ _⟩
      case round =>
        obtain ⟨lf, I', M', u, rfl, rfl, rfl, rfl, hlf, ⟨hu, hm12, hm1, him⟩, htf, hbel⟩ := hrel
        have HX := Lib.hid hbel
        have HLF1 := Lib.hid hlf
        have hun : u ≤ 1099511627776 := by omega
        clear hbel hlf
        by_cases h2 : 1 < M'
        · obtain ⟨I2, hI2⟩ : ∃ I2, I2 = I' / 2 := ⟨_, rfl⟩
          obtain ⟨M2, hM2⟩ : ∃ M2, M2 = (M' + 1) / 2 := ⟨_, rfl⟩
          have hdi : Int.tdiv (I' : Int) 2 = (I2 : Int) := by rw [hI2]; exact (Int.tdiv_eq_ediv_of_nonneg (by omega)).trans (by omega)
          have hdm : Int.tdiv ((M' : Int) + 1) 2 = (M2 : Int) := by rw [hM2]; exact (Int.tdiv_eq_ediv_of_nonneg (by omega)).trans (by omega)
          have HNN := Lib.hid (show M2 ≤ 12 ∧ 1 ≤ M2 ∧ I2 < M2 ∧ M2 < M' from by omega)
          have hb1 : I2 ≤ 12 := by omega
          have hb2 : M2 ≤ 12 := by omega
          by_cases hgo : I' % 2 = 1 ∨ I' + 1 < M'
          · by_cases hu2 : u < n
            · have hdc := drop_cons (p := p) (u := u) (by rw [HL.out]; exact hu2)
              rw [hdc, tf_step h2 hgo, ← hI2, ← hM2] at htf
              obtain ⟨b, off, rfl, hlt, hcc⟩ := (HR.out.below HX.out (Nat.le_refl _)).cells (by omega)
              have d0 := hcc u hu2
              have hx := getD_in HR.out.wf (show u < p.length by rw [HL.out]; exact hu2)
              generalize p.getD u 0 = x at d0 hx htf
              have hu3 : (u : Int) < n := by omega
              have hu4 : ¬ (n : Int) ≤ u := by omega
              by_cases hpar : I' % 2 = 1
              · rw [if_pos hpar] at htf
                have hm : Int.tmod (I' : Int) 2 = 1 := by rw [Int.tmod_eq_emod_of_nonneg (by omega)]; omega
                have HTF := Lib.hid htf
                have HK := Lib.hid (sNodeOf_any x lf wr hx HLF1.out)
                have HI := Lib.hid (node_in x lf)
                generalize nodeOf x lf = z at HTF HK HI
                clear hcc hdc htf hx hgo hpar hI2 hM2 hlt
                go_wp2_with fail
                refine HK.out.mono ?_
                rintro e w2 ⟨rfl, hb3⟩
                have HX2 := Lib.hid (HX.out.trans (hb3.mono HX.out.size))
                clear hb3 d0
                go_wp2
                go_roundw
                case rel => exact ⟨z, I2, M2, u + 1, rfl, by go_num, by go_num, by go_num, HI.out, ⟨by omega, HNN.out.1, HNN.out.2.1, HNN.out.2.2.1⟩, HTF.out, HX2.out⟩
                case measure => have := HNN.out; simp [intOf]; omega
              · rw [if_neg hpar] at htf
                have hm : Int.tmod (I' : Int) 2 = 0 := by rw [Int.tmod_eq_emod_of_nonneg (by omega)]; omega
                have hgn : (I' : Int) + 1 < M' := by omega
                have HTF := Lib.hid htf
                have HK := Lib.hid (sNodeOf_any lf x wr HLF1.out hx)
                have HI := Lib.hid (node_in lf x)
                generalize nodeOf lf x = z at HTF HK HI
                clear hcc hdc htf hx hgo hpar hI2 hM2 hlt
                go_wp2_with fail
                refine HK.out.mono ?_
                rintro e w2 ⟨rfl, hb3⟩
                have HX2 := Lib.hid (HX.out.trans (hb3.mono HX.out.size))
                clear hb3 d0
                go_wp2
                go_roundw
                case rel => exact ⟨z, I2, M2, u + 1, rfl, by go_num, by go_num, by go_num, HI.out, ⟨by omega, HNN.out.1, HNN.out.2.1, HNN.out.2.2.1⟩, HTF.out, HX2.out⟩
                case measure => have := HNN.out; simp [intOf]; omega
            · obtain rfl : u = n := by omega
              have hdn : p.drop u = [] := List.drop_eq_nil_of_le (by rw [HL.out]; omega)
              rw [hdn, tf_none h2 hgo] at htf
              have HE := Lib.hid (HT.out _ htf.symm)
              rcases hpar : decide (I' % 2 = 1) with _ | _
              · have hpar := of_decide_eq_false hpar
                have hm : Int.tmod (I' : Int) 2 = 0 := by rw [Int.tmod_eq_emod_of_nonneg (by omega)]; omega
                have hgn : (I' : Int) + 1 < M' := by omega
                clear htf hgo hpar hI2 hM2
                go_wp2
                go_ret2
                exact ⟨by rw [HQ.out, HE.out]; rfl, HX.out⟩
              · have hpar := of_decide_eq_true hpar
                have hm : Int.tmod (I' : Int) 2 = 1 := by rw [Int.tmod_eq_emod_of_nonneg (by omega)]; omega
                clear htf hgo hpar hI2 hM2
                go_wp2
                go_ret2
                exact ⟨by rw [HQ.out, HE.out]; rfl, HX.out⟩
          · rw [tf_skip h2 hgo, ← hI2, ← hM2] at htf
            have hm : Int.tmod (I' : Int) 2 = 0 := by rw [Int.tmod_eq_emod_of_nonneg (by omega)]; omega
            have hgn : ¬ (I' : Int) + 1 < M' := by omega
            have HTF := Lib.hid htf
            clear htf hgo hI2 hM2
            go_wp2
            go_roundw
            case rel => exact ⟨lf, I2, M2, u, rfl, by go_num, by go_num, rfl, HLF1.out, ⟨hu, HNN.out.1, HNN.out.2.1, HNN.out.2.2.1⟩, HTF.out, HX.out⟩
            case measure => have := HNN.out; simp [intOf]; omega
        · have hM0 : M' = 1 := by omega
          subst hM0
          rw [tf_end (by omega)] at htf
          by_cases hu2 : u = n
          · subst hu2
            rw [if_pos (List.drop_eq_nil_of_le (by rw [HL.out]; omega))] at htf
            have HE := Lib.hid (HT.out _ htf.symm)
            clear htf
            go_wp2
            go_ret2
            exact ⟨by rw [HQ.out, HE.out]; rfl, HX.out⟩
          · rw [if_neg (fun h0 => hu2 (by have := congrArg List.length h0; rw [List.length_drop, HL.out] at this; simp at this; omega))] at htf
            have HE := Lib.hid (HT.out _ htf.symm)
            have hun2 : ¬ (u : Int) = n := by omega
            clear htf
            go_wp2
            go_ret2
            exact ⟨by rw [HQ.out, HE.out]; rfl, HX.out⟩
end Go.Proofs.YtbhhifoofapgiaaGreat.C10S
