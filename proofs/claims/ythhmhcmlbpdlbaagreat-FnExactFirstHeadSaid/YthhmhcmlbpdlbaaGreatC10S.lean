/- Chapter 10: hash trees, what the model's functions return. -/
import Derived.Test.YthhmhcmlbpdlbaaGreatC08S
import Derived.Test.YthhmhcmlbpdlbaaGreatM10
import Derived.Test.YthhmhcmlbpdlbaaGreatQ08
import Derived.Test.YthhmhcmlbpdlbaaGreatC03H
import Derived.Deep.RegionLaw
namespace Go.Proofs.YthhmhcmlbpdlbaaGreat.C10S
open Go.RowKit Mem MemS M02 M03 M05 M08 M10 C01 C02 C03S C03H C08S Rep RW R08 Q08 RKA
set_option linter.unusedVariables false
set_option maxRecDepth 100000
theorem own_lit (k : IntKind) (w : World) {lo b n : Nat} {zs : List Int} {cs : Array Value} {ty : TypeId} (hb : b = w.heap.size) (hc : cs = (zs.map (Value.int k)).toArray) (hty : ty = ety k) (hn : zs.length = n) (hz : ∀ z ∈ zs, In k z) (hl : lo ≤ w.heap.size) (hm : n ≤ maxLen) :
    Own k (w.alloc (.cells cs ty)) lo (b + 1) (some ⟨b, 0, none⟩) n n zs := by
  subst hb hc hty hn
  exact ⟨rfl, hz, by have := World.ownsRow_lit (base := lo) (e := ety k) (size := 1) w (zs.map (Value.int k)).toArray zs.length hl hm (by simp); simpa using this, fun a e => by injection e with e; subst e; simp⟩
def slLen : Value → Nat
  | .slice _ n _ => n
  | _ => 0
theorem sNodeOf_any (a b : Int) (w : World) (ha : In .i64 a) (hb : In .i64 b) : Calls Tryz.prog 152 #[.int .i64 a, .int .i64 b] w fun e w' => e = .returned (.int .i64 (nodeOf a b)) ∧ Below w.heap.size w w' := by
  have H0 := Lib.hid (own_lit .i64 w (b := w.heap.size) (cs := #[.int .i64 229, .int .i64 a, .int .i64 b]) (ty := 3) (zs := [229, a, b]) (n := 3) (lo := w.heap.size) rfl rfl rfl rfl (by
    intro z hz
    simp only [List.mem_cons, List.not_mem_nil, or_false] at hz
    rcases hz with rfl | rfl | rfl
    · exact inI64 (by omega) (by omega)
    · exact ha
    · exact hb) (Nat.le_refl _) (by simp [maxLen]))
  have HB := Lib.hid ((Below.refl w.heap.size w).alloc (Nat.le_refl _) (.cells #[.int .i64 229, .int .i64 a, .int .i64 b] 3))
  have HR := Lib.hid H0.out.rd
  go_enter Tryz.func152, Tryz.ntmps152
  go_wp2_with fail
  refine (sHash_any _ _ _ _ _ _ HR.out (by omega)).mono ?_
  rintro e w1 ⟨rfl, rfl⟩
  go_wp2
  go_ret
  exact ⟨rfl, HB.out⟩
theorem sl10Root_any (a b : Int) (w : World) (ha : In .i64 a) (hb : In .i64 b) : Calls Tryz.prog 84 #[.int .i64 a, .int .i64 b] w fun e w' => e = .returned (.int .i64 (rootN a b)) ∧ Below w.heap.size w w' := by
  have H0 := Lib.hid (own_lit .i64 w (b := w.heap.size) (cs := #[.int .i64 231, .int .i64 a, .int .i64 b]) (ty := 3) (zs := [231, a, b]) (n := 3) (lo := w.heap.size) rfl rfl rfl rfl (by
    intro z hz
    simp only [List.mem_cons, List.not_mem_nil, or_false] at hz
    rcases hz with rfl | rfl | rfl
    · exact inI64 (by omega) (by omega)
    · exact ha
    · exact hb) (Nat.le_refl _) (by simp [maxLen]))
  have HB := Lib.hid ((Below.refl w.heap.size w).alloc (Nat.le_refl _) (.cells #[.int .i64 231, .int .i64 a, .int .i64 b] 3))
  have HR := Lib.hid H0.out.rd
  go_enter Tryz.func84, Tryz.ntmps84
  go_wp2_with fail
  refine (sHash_any _ _ _ _ _ _ HR.out (by omega)).mono ?_
  rintro e w1 ⟨rfl, rfl⟩
  go_wp2
  go_ret
  exact ⟨rfl, HB.out⟩
theorem node_in (a b : Int) : In .i64 (nodeOf a b) := by have := hsh_range [229, a, b]; unfold nodeOf; exact inI64 (by omega) (by omega)
set_option maxHeartbeats 1000000 in
theorem sl10Up_any (A : Option Addr) (n c : Nat) (l : List Int) (w : World) (h : Rd .i64 w w.heap.size A n l) (hn : n ≤ 1099511627776) :
    Calls Tryz.prog 123 #[.slice A n c] w fun e w' => ∃ A' c', e = .returned (.slice A' (up l).length c') ∧ Own .i64 w' w.heap.size w'.heap.size A' (up l).length c' (up l) ∧ Below w.heap.size w w' := by
  have HL := Lib.hid h.len
  have HR := Lib.hid h
  have HWF := Lib.hid h.wf
  have HO := Lib.hid (Own.lit0 .i64 (lo := w.heap.size) w (Nat.le_refl _))
  have HB := Lib.hid ((Below.refl w.heap.size w).alloc (Nat.le_refl _) (.cells #[] 3))
  have HUL := Lib.hid (fun i => up_len (l.take i))
  clear h
  go_enter Tryz.func123, Tryz.ntmps123
  go_wp2
  go_loopw [3, 4] (fun o v wr => ∃ (i : Nat) (A1 : Option Addr) (c1 : Nat), i ≤ n + 1 ∧ i % 2 = 0 ∧ v = .int .i64 i ∧ o = .slice A1 (up (l.take i)).length c1 ∧ Own .i64 wr w.heap.size wr.heap.size A1 (up (l.take i)).length c1 (up (l.take i)) ∧ Below w.heap.size w wr) (fun _ v _ => n + 1 - (intOf v).toNat)
  case atStart => exact ⟨0, _, 0, by omega, rfl, rfl, rfl, HO.out.top, HB.out⟩
  case round =>
    obtain ⟨i, A1, c1, hi, hev, rfl, rfl, hown, hbel⟩ := hrel
    have HX := Lib.hid hbel
    have HO1 := Lib.hid hown
    have HEV := Lib.hid hev
    have hul := HUL.out i
    rw [List.length_take] at hul
    clear hbel hown hev
    by_cases hin : i < n
    · obtain ⟨b, off, rfl, hlt, hcc⟩ := (HR.out.below HX.out (Nat.le_refl _)).cells (by omega)
      have d0 := hcc i hin
      by_cases hi2 : i + 1 < n
      · have d1 := hcc (i + 1) hi2
        have hst := up_two (l := l) (i := i) (by rw [HL.out]; exact hi2) HEV.out
        have hx := getD_in HWF.out (show i < l.length by rw [HL.out]; exact hin)
        have hy := getD_in HWF.out (show i + 1 < l.length by rw [HL.out]; exact hi2)
        generalize l.getD i 0 = x at d0 hst hx
        generalize l.getD (i + 1) 0 = y at d1 hst hy
        generalize hsb : up (l.take i) = sb at HO1 hst hul
        have hsl : sb.length ≤ 1099511627776 := by omega
        have HS := Lib.hid hst
        have HI := Lib.hid (node_in x y)
        have HK := Lib.hid (sNodeOf_any x y wr.drew hx hy)
        generalize nodeOf x y = z at HS HI HK
        have hi3 : (i : Int) + 1 < n := by omega
        have hi4 : ((i + 1 : Nat) : Int) < n := by omega
        have e0 : wr.drew.cell? ⟨b, off + i, none⟩ = some (.int .i64 x) := d0
        have e1 : wr.drew.cell? ⟨b, off + (i + 1), none⟩ = some (.int .i64 y) := d1
        have HXd := Lib.hid (show Below w.heap.size w wr.drew from HX.out.drew)
        have HOd := Lib.hid (show Own .i64 wr.drew w.heap.size wr.drew.heap.size A1 sb.length c1 sb from HO1.out.keep fun i _ _ _ => rfl)
        have hi6 : 0 ≤ (i : Int) + 1 := by omega
        have hi5 : IntKind.i64.wrap ((i : Int) + 1) = ((i + 1 : Nat) : Int) := by rw [IntKind.wrap_i64]; omega
        clear hcc hst hx hy hsb hul hlt d0 d1
        go_wp2_with fail
        go_region_law ((first
          | (go_simp; go_at_call 152; refine HK.out.mono ?_; rintro e w2 ⟨rfl, hb2⟩; have HX2 := Lib.hid (HXd.out.trans (hb2.mono HXd.out.size)); have HO2 := Lib.hid (HOd.out.below hb2 (Nat.le_refl _)).top; clear hb2)
          | (refine step_app (k := .i64) (by unfold BI; decide) rfl (.tmp 17) (.tmp 28) rfl rfl (HO2.out.alloc _) rfl (rd_new .i64 w2 HI.out) (by omega) (by have := HX2.out.size; simp; omega) ?_; intro A4 c4 w4 hown4 hgr4)))
        all_goals
          have HB4 := Lib.hid ((HX2.out.alloc HX2.out.size _).trans (hgr4.below (by have := HX2.out.size; simp; omega) HO2.out.ge))
          have HO4 := Lib.hid hown4
          clear hown4 hgr4 e0 e1
          go_wp2
          go_roundw
          case rel => exact ⟨i + 2, A4, c4, by omega, by have := HEV.out; omega, by go_num, by rw [HS.out, List.length_append]; rfl, by rw [HS.out, List.length_append]; exact HO4.out, HB4.out⟩
          case measure => simp [intOf]; omega
      · have hst := up_one (l := l) (i := i) (by rw [HL.out]; omega) HEV.out
        have hx := getD_in HWF.out (show i < l.length by rw [HL.out]; exact hin)
        generalize l.getD i 0 = x at d0 hst hx
        generalize hsb : up (l.take i) = sb at HO1 hst hul
        have hsl : sb.length ≤ 1099511627776 := by omega
        have HS := Lib.hid hst
        have HI := Lib.hid hx
        have hi3 : ¬ (i : Int) + 1 < n := by omega
        clear hcc hst hx hsb hul hlt
        go_wp2_with (at_builtin; refine wp_push (k := .i64) (z := x) (by unfold BI; decide) rfl _ _ rfl rfl HO1.out rfl HI.out (by omega) HX.out.size ?_; intro A4 c4 w4 hown4 hgr4)
        have HB4 := Lib.hid (HX.out.trans (hgr4.below HX.out.size HO1.out.ge))
        have HO4 := Lib.hid hown4
        clear hown4 hgr4 d0
        go_wp2
        go_roundw
        case rel => exact ⟨i + 2, A4, c4, by omega, by have := HEV.out; omega, by go_num, by rw [HS.out, List.length_append]; rfl, by rw [HS.out, List.length_append]; exact HO4.out, HB4.out⟩
        case measure => simp [intOf]; omega
    · rw [List.take_of_length_le (by rw [HL.out]; omega)] at HO1
      rw [List.take_of_length_le (by rw [HL.out]; omega)]
      clear hul
      go_wp2
      go_ret
      exact ⟨A1, c1, rfl, HO1.out, HX.out⟩
set_option maxHeartbeats 1000000 in
theorem sTopOf_any (A : Option Addr) (n c : Nat) (l : List Int) (w : World) (h : Rd .i64 w w.heap.size A n l) (hn : n ≤ 1099511627776) :
    Calls Tryz.prog 85 #[.slice A n c] w fun e w' => e = .returned (.int .i64 (topOf l)) ∧ Below w.heap.size w w' := by
  have HL := Lib.hid h.len
  by_cases h0 : n = 0
  · subst h0
    have HT := Lib.hid (show topOf l = hsh [229] from by unfold topOf; rw [if_pos HL.out])
    have H0 := Lib.hid (own_lit .i64 w (b := w.heap.size) (cs := #[.int .i64 229]) (ty := 3) (zs := [229]) (n := 1) (lo := w.heap.size) rfl rfl rfl rfl (by intro z hz; rw [List.mem_singleton.1 hz]; exact inI64 (by omega) (by omega)) (Nat.le_refl _) (by simp [maxLen])).rd
    have HB := Lib.hid ((Below.refl w.heap.size w).alloc (Nat.le_refl _) (.cells #[.int .i64 229] 3))
    clear h
    rw [HT.out]
    go_enter Tryz.func85, Tryz.ntmps85
    go_wp2_with fail
    refine (sHash_any _ _ _ _ _ _ H0.out (by omega)).mono ?_
    rintro e w1 ⟨rfl, rfl⟩
    go_wp2
    go_ret
    exact ⟨rfl, HB.out⟩
  · have HT := Lib.hid (show topOf l = topW l from by unfold topOf; rw [if_neg (by rw [HL.out]; exact h0)])
    have HR := Lib.hid h
    have h1 : ¬ (n : Int) = 0 := by omega
    have h1b : ((n : Int) == 0) = false := beq_eq_false_iff_ne.2 h1
    have h1n : ¬ n = 0 := h0
    clear h
    rw [HT.out]
    go_enter Tryz.func85, Tryz.ntmps85
    go_wp2
    go_loopw [3] (fun v wr => ∃ (l' : List Int) (A' : Option Addr) (n' c' : Nat), v = .slice A' n' c' ∧ Rd .i64 wr wr.heap.size A' n' l' ∧ 0 < n' ∧ n' ≤ n ∧ topW l' = topW l ∧ Below w.heap.size w wr) (fun v _ => slLen v)
    case atStart => exact ⟨l, A, n, c, rfl, HR.out, by omega, Nat.le_refl _, rfl, Below.refl _ _⟩
    case round =>
      obtain ⟨l', A', n', c', rfl, hr, hp, hle, ht, hbel⟩ := hrel
      have HX := Lib.hid hbel
      have HR1 := Lib.hid hr
      have HTT := Lib.hid ht
      have hl' := hr.len
      clear hbel hr ht
      by_cases h2 : 1 < n'
      · have hul := up_len l'
        have hU := sl10Up_any A' n' c' l' wr HR1.out (by omega)
        have HU := Lib.hid hU
        have HTU := Lib.hid (topW_up (l := l') (by omega))
        generalize hul' : up l' = l2 at HU HTU hul
        have hu1 : l2.length < n' := by omega
        have hu2 : 0 < l2.length := by omega
        clear hU hul hul' hl'
        go_wp2_with fail
        refine HU.out.mono ?_
        rintro e w2 ⟨A2, c2, rfl, ho2, hb2⟩
        have HX2 := Lib.hid (HX.out.trans (hb2.mono HX.out.size))
        have HO2 := Lib.hid ho2.rd
        clear ho2 hb2
        go_wp2
        go_roundw
        case rel => exact ⟨l2, A2, l2.length, c2, rfl, HO2.out, hu2, by omega, HTU.out.trans HTT.out, HX2.out⟩
        case measure => simp [slLen]; omega
      · obtain rfl : n' = 1 := by omega
        obtain ⟨b, off, rfl, hlt, hcc⟩ := HR1.out.cells (by omega)
        have d0 : wr.cell? ⟨b, off, none⟩ = some (.int .i64 (l'.getD 0 0)) := hcc 0 (by omega)
        have HE := Lib.hid (show topW l = l'.getD 0 0 from by rw [← HTT.out, topW_one (by omega)])
        generalize l'.getD 0 0 = x at d0 HE
        clear hcc hl'
        go_wp2
        go_ret
        exact ⟨by rw [HE.out]; rfl, HX.out⟩
set_option maxHeartbeats 1000000 in
theorem sLeavesOf_any (A : Option Addr) (n c : Nat) (l : List Entry) (w : World) (h : FRdEntry w w.heap.size A n l) (hn : totR totEntry l ≤ 1048576) :
    Calls Tryz.prog 86 #[.slice A n c] w fun e w' => ∃ A' c', e = .returned (.slice A' n c') ∧ Own .i64 w' w.heap.size w'.heap.size A' n c' (leavesE l) ∧ Below w.heap.size w w' := by
  have HL := Lib.hid h.len
  have HT := Lib.hid hn
  have hn2 : n ≤ 1048576 := by have := totR_len totEntry l; have := h.len; omega
  have HR := Lib.hid h
  have HO := Lib.hid (Own.lit0 .i64 (lo := w.heap.size) w (Nat.le_refl _))
  have HB := Lib.hid ((Below.refl w.heap.size w).alloc (Nat.le_refl _) (.cells #[] 3))
  clear h hn
  go_enter Tryz.func86, Tryz.ntmps86
  go_wp2
  go_loopw [3, 4] (fun o i wr => ∃ (j : Nat) (A1 : Option Addr) (c1 : Nat), j ≤ n ∧ i = .int .i64 j ∧ o = .slice A1 j c1 ∧ Own .i64 wr w.heap.size wr.heap.size A1 j c1 (leavesE (l.take j)) ∧ Below w.heap.size w wr) (fun _ i _ => n - (intOf i).toNat)
  case atStart => exact ⟨0, _, 0, by omega, rfl, rfl, HO.out.top, HB.out⟩
  case round =>
    obtain ⟨j, A1, c1, hj, rfl, rfl, hown, hbel⟩ := hrel
    have HX := Lib.hid hbel
    have HO1 := Lib.hid hown
    clear hbel hown
    by_cases hjn : j < n
    · obtain ⟨b, off, cs, rfl, hlt, hrd, hcc⟩ := (HR.out.below HX.out (Nat.le_refl _)).at hjn
      obtain ⟨z, hz⟩ : ∃ z, z = l.getD j default := ⟨_, rfl⟩
      rw [← hz] at hrd
      have htz : totEntry z ≤ totR totEntry l := by rw [hz]; exact totR_mem totEntry (by rw [HL.out]; exact hjn)
      have hrd2 := REntry.more hrd fun i hi => Nat.lt_of_lt_of_le hi HX.out.size
      have HSN := Lib.hid (show leavesE (l.take (j + 1)) = leavesE (l.take j) ++ [leafOf z] from by
        unfold leavesE
        rw [List.take_succ_eq_append_getElem (show j < l.length by rw [HL.out]; exact hjn), List.map_append, hz]
        simp [List.getD, show j < l.length by rw [HL.out]; exact hjn])
      have hK := sLeafOf_any cs z wr hrd2 (by have := HT.out; omega)
      obtain ⟨A3, n3, c3, rfl, -⟩ := REntry_rd.1 hrd2
      have d0 : wr.cell? ⟨b, off + j * 4, none⟩ = some (.string z.label) := hcc 0 (by decide)
      have d1 : wr.cell? ⟨b, off + j * 4 + 1, none⟩ = some (.int .i64 z.kind) := hcc 1 (by decide)
      have d2 : wr.cell? ⟨b, off + j * 4 + 2, none⟩ = some (.int .i64 z.value) := hcc 2 (by decide)
      have d3 : wr.cell? ⟨b, off + j * 4 + 3, none⟩ = some (.slice A3 n3 c3) := hcc 3 (by decide)
      have HI := Lib.hid (show In .i64 (leafOf z) from by have := hsh_range (227 :: entryInts z); unfold leafOf; exact inI64 (by omega) (by omega))
      have HK := Lib.hid hK
      clear hcc hrd hrd2 hz htz hlt hK
      generalize leafOf z = lf at HSN HI HK
      obtain ⟨z0, z1, z2, z3⟩ := z
      simp only at d0 d1 d2 HK
      go_wp2_with fail
      refine HK.out.mono ?_
      rintro e w2 ⟨rfl, hb2⟩
      have HX2 := Lib.hid (HX.out.trans (hb2.mono HX.out.size))
      have HO2 := Lib.hid (HO1.out.below hb2 (Nat.le_refl _)).top
      clear hb2 d0 d1 d2 d3
      go_wp2_with (at_builtin; refine wp_push (k := .i64) (z := lf) (by unfold BI; decide) rfl _ _ rfl rfl HO2.out rfl HI.out (by omega) HX2.out.size ?_; intro A4 c4 w4 hown4 hgr4)
      have HB4 := Lib.hid (HX2.out.trans (hgr4.below HX2.out.size HO2.out.ge))
      have HO4 := Lib.hid hown4
      clear hown4 hgr4
      go_wp2
      go_roundw
      case rel => exact ⟨j + 1, A4, c4, by omega, by go_num, rfl, by rw [HSN.out]; exact HO4.out, HB4.out⟩
      case measure => simp [intOf]; omega
    · obtain rfl : j = n := by omega
      rw [List.take_of_length_le (by rw [HL.out]; omega)] at HO1
      go_wp2
      go_ret
      exact ⟨A1, c1, rfl, HO1.out, HX.out⟩
theorem top_in (l : List Int) (h : ∀ z ∈ l, In .i64 z) : In .i64 (topOf l) := by
  have key : ∀ (k : Nat) (l : List Int), l.length ≤ k → (∀ z ∈ l, In .i64 z) → In .i64 (topW l) := by
    intro k
    induction k with
    | zero =>
      intro l hl h
      rw [topW_one (by omega), List.eq_nil_of_length_eq_zero (l := l) (by omega)]
      exact inI64 (by simp) (by simp)
    | succ k ih =>
      intro l hl h
      by_cases h1 : 1 < l.length
      · rw [← topW_up h1]
        refine ih _ (by have := up_len l; omega) ?_
        have : ∀ (l : List Int), (∀ z ∈ l, In .i64 z) → ∀ z ∈ up l, In .i64 z := by
          intro l
          induction l using up.induct with
          | case1 => intro _ z hz; simp [up] at hz
          | case2 a => intro h z hz; exact h z (by simpa [up] using hz)
          | case3 a b r ih =>
            intro h z hz
            rcases List.mem_cons.1 hz with rfl | hz
            · exact node_in a b
            · exact ih (fun y hy => h y (by simp [hy])) z hz
        exact this l h
      · rw [topW_one h1]
        rcases l with _ | ⟨a, r⟩
        · exact inI64 (by simp) (by simp)
        · exact h a (by simp)
  unfold topOf
  split
  · have := hsh_range [229]
    exact inI64 (by omega) (by omega)
  · exact key l.length l (Nat.le_refl _) h
theorem sRootOf_any (A : Option Addr) (n c : Nat) (l : List Entry) (w : World) (h : FRdEntry w w.heap.size A n l) (hn : totR totEntry l ≤ 1048576) :
    Calls Tryz.prog 40 #[.slice A n c] w fun e w' => e = .returned (.int .i64 (rootOf l)) ∧ Below w.heap.size w w' := by
  have hl := h.len
  have hn2 : n ≤ 1048576 := by have := totR_len totEntry l; omega
  have HT := Lib.hid (show rootOf l = rootN n (topOf (leavesE l)) from by unfold rootOf; rw [hl])
  have HK := Lib.hid (sLeavesOf_any A n c l w h hn)
  rw [HT.out]
  generalize leavesE l = lv at HK HT
  clear h hl
  go_enter Tryz.func40, Tryz.ntmps40
  go_wp2_with fail
  refine HK.out.mono ?_
  rintro e w1 ⟨A1, c1, rfl, ho1, hb1⟩
  have HI := Lib.hid (top_in lv ho1.wf)
  have HK2 := Lib.hid (sTopOf_any A1 n c1 lv w1 ho1.rd (by omega))
  have HB1 := Lib.hid hb1
  obtain ⟨tp, htp⟩ : ∃ tp, tp = topOf lv := ⟨_, rfl⟩
  rw [← htp] at HI HK2
  have HTP := Lib.hid htp
  clear htp
  clear ho1 hb1
  go_wp2_with fail
  refine HK2.out.mono ?_
  rintro e w2 ⟨rfl, hb2⟩
  have HB2 := Lib.hid (HB1.out.trans (hb2.mono HB1.out.size))
  clear hb2
  go_wp2_with fail
  refine (sl10Root_any n tp w2 (inI64 (by omega) (by omega)) HI.out).mono ?_
  rintro e w3 ⟨rfl, hb3⟩
  have HB3 := Lib.hid (HB2.out.trans (hb3.mono HB2.out.size))
  clear hb3
  go_wp2
  go_ret
  exact ⟨by rw [← HTP.out]; rfl, HB3.out⟩
theorem rd_one {k : IntKind} {w w' : World} {B n : Nat} {A : Option Addr} {zs : List Int} (h : Rd k w B A n zs) (hk : ∀ a, A = some a → w'.heap[a.block]? = w.heap[a.block]?) : Rd k w' B A n zs :=
  ⟨h.len, h.wf, fun hn => by
    obtain ⟨b, off, e, hlt, hc⟩ := h.cells hn
    exact ⟨b, off, e, hlt, fun j hj => (World.cell?_of_block (a := ⟨b, off + j, none⟩) (by have := hk _ e; exact this)).trans (hc j hj)⟩⟩
theorem gr_one {A A' : Option Addr} {w w' : World} (h : Gr A w A' w') {b : Nat} (hb : b < w.heap.size) (hne : ∀ a, A = some a → b ≠ a.block) : w'.heap[b]? = w.heap[b]? :=
  h.1.block b hb fun e => by
    cases A with
    | none => cases e
    | some a =>
      injection e with e
      exact hne a rfl e
theorem tf_of {leaf i m : Int} {p : List Int} {I M : Nat} (hi : i = I) (hm : m = M) (h1 : inR m 1 12 = true) (h2 : inR i 0 (m - 1) = true) {r : Option Int} (h : tfW leaf I M p = r) : topFrom leaf i m p = (r.getD 0, r.isSome) := by
  unfold topFrom
  rw [h1, h2]
  simp only [Bool.and_self, if_true]
  rw [hi, hm, Int.toNat_natCast, Int.toNat_natCast, h]
  cases r <;> rfl
theorem drop_cons {p : List Int} {u : Nat} (h : u < p.length) : p.drop u = p.getD u 0 :: p.drop (u + 1) := by
  rw [List.drop_eq_getElem_cons h]
  simp [List.getD, h]
end Go.Proofs.YthhmhcmlbpdlbaaGreat.C10S
