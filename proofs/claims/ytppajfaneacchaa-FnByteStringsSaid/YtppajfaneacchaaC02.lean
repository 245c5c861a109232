/- Chapter 2: what the code's and the model's functions on byte strings return: appending. -/
import Derived.Test.YtppajfaneacchaaMem
import Derived.Test.YtppajfaneacchaaM02
import Derived.Test.YtppajfaneacchaaC01
namespace Go.Proofs.Ytppajfaneacchaa.C02
open Go.RowKit Mem M02 C01
set_option linter.unusedVariables false
theorem byt_in {zs : List Int} (h : ∀ z ∈ zs, In .u8 z) : Byt zs := fun z hz => by
  have := h z hz
  exact ⟨this.1, this.2⟩
theorem in_u8 {z : Int} (h0 : 0 ≤ z) (h1 : z ≤ 255) : In .u8 z := ⟨h0, h1⟩
theorem copyBytes_any (A : Option Addr) (n c : Nat) (zs : List Int) (w : World) (h : Rd .u8 w w.heap.size A n zs) (hn : n ≤ 1099511627776) :
    Calls Try.prog 46 #[.slice A n c] w fun e w' => ∃ A' c', e = .returned (.slice A' n c') ∧ Own .u8 w' w.heap.size w'.heap.size A' n c' zs ∧ Below w.heap.size w w' := by
  have h0 : Own .u8 (w.alloc (.cells #[] 5)) w.heap.size (w.heap.size + 1) (some ⟨w.heap.size, 0, none⟩) 0 0 [] := Own.lit0 .u8 w (Nat.le_refl _)
  have h1 := h.alloc (Nat.le_refl _) (.cells #[] 5)
  have hb0 : Below w.heap.size w (w.alloc (.cells #[] 5)) := (Below.refl _ _).alloc (Nat.le_refl _) _
  go_enter Try.func46, Try.ntmps46
  go_wp2_with (at_builtin; refine wp_app (k := .u8) (by unfold BI; decide) rfl _ _ rfl rfl h0 rfl h1 (by omega) hb0.size ?_; intro A' c' w1 hown hgr)
  go_ret
  refine ⟨_, _, rfl, by simpa using hown, hb0.trans (hgr.below hb0.size h0.ge)⟩
theorem uv_go {m : Nat} {d u : List Int} (h : d ++ uv m = u) (hm : ¬ m ≤ 127) {x : Int} (hx : x = (m : Int) % 128 + 128) : (d ++ [x]) ++ uv (m / 128) = u := by
  rw [← h, uv_big hm, List.append_assoc, List.singleton_append, hx]
  congr 1
theorem uv_end {m : Nat} {d u : List Int} (h : d ++ uv m = u) (hm : m ≤ 127) {x : Int} (hx : x = m) : d ++ [x] = u := by rw [← h, uv_small hm, hx]
theorem appendGroups_any (lo hi : Nat) (A : Option Addr) (n c : Nat) (zs : List Int) (z : Int) (w : World) (h : Own .u8 w lo hi A n c zs) (hlo : lo ≤ w.heap.size) (hn : n ≤ 1099511627776) :
    Calls Try.prog 45 #[.slice A n c, .int .i64 z] w fun e w' => ∃ A' n' c', e = .returned (.slice A' n' c') ∧ n' = n + (enc z).length ∧ Own .u8 w' lo w'.heap.size A' n' c' (zs ++ enc z) ∧ Gr A w A' w' := by
  by_cases hz : 0 ≤ z ∧ z ≤ 1000000000000
  · obtain ⟨m0, rfl⟩ : ∃ m0 : Nat, z = m0 := ⟨z.toNat, by omega⟩
    have hir := inR_true hz.1 hz.2
    have he : enc (m0 : Int) = uv m0 := by rw [enc_in hz.1 hz.2]; simp
    have hel : (uv m0).length ≤ 6 := by rw [← he]; exact enc_len _
    go_enter Try.func45, Try.ntmps45
    go_wp2_with (first | (go_at_call 47; refine (inRange_any _ _ _ _).mono ?_; rw [hir]; rintro e w1 ⟨rfl, rfl⟩) | fail)
    go_loopw [0, 1] (fun v q wr => ∃ (A1 : Option Addr) (n1 c1 m : Nat) (d : List Int), v = .slice A1 n1 c1 ∧ q = .int .i64 m ∧ m ≤ 1000000000000 ∧ n1 ≤ 1099511627782 ∧ n1 = n + d.length ∧ d ++ uv m = uv m0 ∧ Own .u8 wr lo wr.heap.size A1 n1 c1 (zs ++ d) ∧ Gr A w A1 wr) (fun _ q _ => (intOf q).toNat)
    case atStart => exact ⟨A, n, c, m0, [], rfl, rfl, by omega, by omega, rfl, rfl, by simpa using h.top, Gr.refl _ _⟩
    case round =>
      obtain ⟨A1, n1, c1, m, d, rfl, rfl, hm, hn1, hnd, hd, hown, hgr⟩ := hrel
      have hlo1 : lo ≤ wr.heap.size := by have := hgr.1.size; omega
      have hdl : d.length + (uv m).length ≤ 6 := by rw [← List.length_append, hd]; exact hel
      have hvp := uv_pos m
      have HN := Lib.hid hnd
      have hnd2 : n1 ≤ 1099511627776 + 6 := by omega
      clear hnd
      by_cases hm2 : m ≤ 127
      · have hz1 : In .u8 (m : Int) := in_u8 (by omega) (by omega)
        go_wp2_with (at_builtin; refine wp_push (k := .u8) (z := (m : Int)) (by unfold BI; decide) rfl _ _ rfl rfl hown rfl hz1 (by omega) hlo1 ?_; intro A2 c2 w2 hown2 hgr2)
        go_ret
        rw [he]
        have e := uv_end hd hm2 rfl
        rw [List.append_assoc, e] at hown2
        exact ⟨_, _, _, rfl, by have := HN.out; rw [← e]; simp; omega, hown2, hgr.trans hgr2⟩
      · have hz1 : In .u8 ((m : Int) % 128 + 128) := in_u8 (by omega) (by omega)
        have hdl2 := uv_big hm2
        have hlen2 : (uv m).length = (uv (m / 128)).length + 1 := by rw [hdl2]; simp
        go_wp2_with (at_builtin; refine wp_push (k := .u8) (z := (m : Int) % 128 + 128) (by unfold BI; decide) rfl _ _ rfl rfl hown rfl hz1 (by omega) hlo1 ?_; intro A2 c2 w2 hown2 hgr2)
        go_roundw
        case rel => exact ⟨A2, n1 + 1, c2, m / 128, d ++ [(m : Int) % 128 + 128], rfl, by go_num, by omega, by have := HN.out; omega, by have := HN.out; simp; omega, uv_go hd hm2 rfl, by simpa [List.append_assoc] using hown2, hgr.trans hgr2⟩
        case measure => simp [intOf]; omega
  · have hir := inR_false (n := z) (a := 0) (b := 1000000000000) (by omega)
    go_enter Try.func45, Try.ntmps45
    go_wp2_with (first | (go_at_call 47; refine (inRange_any _ _ _ _).mono ?_; rw [hir]; rintro e w1 ⟨rfl, rfl⟩) | fail)
    go_ret
    rw [enc_out (by omega)]
    exact ⟨_, _, _, rfl, by simp, by simpa using h.top, Gr.refl _ _⟩
theorem iAppendUvarint_any (A : Option Addr) (n c : Nat) (zs : List Int) (z : Int) (w : World) (h : Rd .u8 w w.heap.size A n zs) (hn : n ≤ 1099511627776) :
    Calls Try.prog 14 #[.slice A n c, .int .i64 z] w fun e w' => ∃ A' n' c', e = .returned (.slice A' n' c') ∧ n' = n + (enc z).length ∧ Own .u8 w' w.heap.size w'.heap.size A' n' c' (zs ++ enc z) ∧ Below w.heap.size w w' := by
  go_enter Try.func14, Try.ntmps14
  go_wp2_with (first | (go_at_call 46; refine (copyBytes_any A n c zs w h hn).mono ?_; rintro e w1 ⟨A1, c1, rfl, hown1, hb1⟩) | (go_at_call 45; refine (appendGroups_any w.heap.size w1.heap.size A1 n c1 zs z w1 hown1 hb1.size hn).mono ?_; rintro e w2 ⟨A2, n2, c2, rfl, rfl, hown2, hgr2⟩))
  go_ret
  exact ⟨_, _, _, rfl, rfl, hown2, hb1.trans (hgr2.below hb1.size hown1.ge)⟩
theorem sAppendUvarint_any (A : Option Addr) (n c : Nat) (zs : List Int) (z : Int) (w : World) (h : Rd .u8 w w.heap.size A n zs) (hn : n ≤ 1099511627776) :
    Calls Try.prog 26 #[.slice A n c, .int .i64 z] w fun e w' => ∃ A' n' c', e = .returned (.slice A' n' c') ∧ n' = n + (enc z).length ∧ Own .u8 w' w.heap.size w'.heap.size A' n' c' (zs ++ enc z) ∧ Below w.heap.size w w' := by
  have h0 : Own .u8 (w.alloc (.cells #[] 5)) w.heap.size (w.heap.size + 1) (some ⟨w.heap.size, 0, none⟩) 0 0 [] := Own.lit0 .u8 w (Nat.le_refl _)
  have h1 := h.alloc (Nat.le_refl _) (.cells #[] 5)
  have hb0 : Below w.heap.size w (w.alloc (.cells #[] 5)) := (Below.refl _ _).alloc (Nat.le_refl _) _
  by_cases hz : 0 ≤ z ∧ z ≤ 1000000000000
  · obtain ⟨m0, rfl⟩ : ∃ m0 : Nat, z = m0 := ⟨z.toNat, by omega⟩
    have hir := inR_true hz.1 hz.2
    have he : enc (m0 : Int) = uv m0 := by rw [enc_in hz.1 hz.2]; simp
    have hel : (uv m0).length ≤ 6 := by rw [← he]; exact enc_len _
    go_enter Try.func26, Try.ntmps26
    go_wp2_with (first | (at_builtin; refine wp_app (k := .u8) (by unfold BI; decide) rfl _ _ rfl rfl h0 rfl h1 (by omega) hb0.size ?_; intro A' c' w1 hown1 hgr1; simp only [Nat.zero_add, List.nil_append] at hown1) | (go_at_call 52; refine (l1In_any _ _ _ _).mono ?_; rw [hir]; rintro e w2 ⟨rfl, rfl⟩))
    have hb1 := hb0.trans (hgr1.below hb0.size h0.ge)
    have HB := Lib.hid hb1
    clear hgr1 hb0 h0 h1 hb1
    go_loopw [1, 5] (fun q v wr => ∃ (A1 : Option Addr) (n1 c1 m : Nat) (d : List Int), v = .slice A1 n1 c1 ∧ q = .int .i64 m ∧ m ≤ 1000000000000 ∧ n1 ≤ 1099511627782 ∧ n1 = n + d.length ∧ d ++ uv m = uv m0 ∧ Own .u8 wr w.heap.size wr.heap.size A1 n1 c1 (zs ++ d) ∧ Below w.heap.size w wr) (fun q _ _ => (intOf q).toNat)
    case atStart => exact ⟨A', n, c', m0, [], rfl, rfl, by omega, by omega, rfl, rfl, by simpa using hown1, HB.out⟩
    case round =>
      obtain ⟨A1, n1, c1, m, d, rfl, rfl, hm, hn1, hnd, hd, hown, hbel⟩ := hrel
      have hlo1 : w.heap.size ≤ wr.heap.size := hbel.size
      have hdl : d.length + (uv m).length ≤ 6 := by rw [← List.length_append, hd]; exact hel
      have hvp := uv_pos m
      have HN := Lib.hid hnd
      have hnd2 : n1 ≤ 1099511627776 + 6 := by omega
      clear hnd
      by_cases hm2 : m ≤ 127
      · have hz1 : In .u8 (m : Int) := in_u8 (by omega) (by omega)
        go_wp2_with (at_builtin; refine wp_push (k := .u8) (z := (m : Int)) (by unfold BI; decide) rfl _ _ rfl rfl hown rfl hz1 (by omega) hlo1 ?_; intro A2 c2 w2 hown2 hgr2)
        go_ret
        rw [he]
        have e := uv_end hd hm2 rfl
        rw [List.append_assoc, e] at hown2
        exact ⟨_, _, _, rfl, by have := HN.out; rw [← e]; simp; omega, hown2, hbel.trans (hgr2.below hlo1 hown.ge)⟩
      · have hz1 : In .u8 ((m : Int) % 128 + 128) := in_u8 (by omega) (by omega)
        have hdl2 := uv_big hm2
        have hq1 : bits .and .i64 (m : Int) 127 = (m : Int) % 128 := and127 (by omega) (by omega)
        have hq2 : bits .or .i64 ((m : Int) % 128) 128 = (m : Int) % 128 + 128 := or128 (by omega) (by omega)
        have hq3 : (m : Int) / 2 ^ 7 = (m : Int) / 128 := rfl
        have hlen2 : (uv m).length = (uv (m / 128)).length + 1 := by rw [hdl2]; simp
        go_wp2_with (at_builtin; refine wp_push (k := .u8) (z := (m : Int) % 128 + 128) (by unfold BI; decide) rfl _ _ rfl rfl hown rfl hz1 (by omega) hlo1 ?_; intro A2 c2 w2 hown2 hgr2)
        go_roundw
        case rel => exact ⟨A2, n1 + 1, c2, m / 128, d ++ [(m : Int) % 128 + 128], rfl, by go_num, by omega, by have := HN.out; omega, by have := HN.out; simp; omega, uv_go hd hm2 rfl, by simpa [List.append_assoc] using hown2, hbel.trans (hgr2.below hlo1 hown.ge)⟩
        case measure => simp [intOf]; omega
  · have hir := inR_false (n := z) (a := 0) (b := 1000000000000) (by omega)
    go_enter Try.func26, Try.ntmps26
    go_wp2_with (first | (at_builtin; refine wp_app (k := .u8) (by unfold BI; decide) rfl _ _ rfl rfl h0 rfl h1 (by omega) hb0.size ?_; intro A' c' w1 hown1 hgr1; simp only [Nat.zero_add, List.nil_append] at hown1) | (go_at_call 52; refine (l1In_any _ _ _ _).mono ?_; rw [hir]; rintro e w2 ⟨rfl, rfl⟩))
    go_ret
    rw [enc_out (by omega)]
    exact ⟨_, _, _, rfl, by simp, by simpa using hown1, hb0.trans (hgr1.below hb0.size h0.ge)⟩
end Go.Proofs.Ytppajfaneacchaa.C02
