/- Chapter 10: one level up: levelAbove. -/
import Derived.Test.YtcpfdhammhcoaaaC10R
namespace Go.Proofs.Ytcpfdhammhcoaaa.C10L
open Go.RowKit Mem MemS M10 M10T C01 Rep RepA RW C10T C10V C10J C10R RR
attribute [local go_sem] Oper.semAt_some
set_option linter.unusedVariables false
set_option maxRecDepth 100000
theorem nos_app {n : Nat} (pre : List (PC n)) (x : PC n) : nos (pre ++ [x]) = nos pre ++ [x.1] := by simp [nos]
theorem ichunk_stops (m s g n c : Nat) (hn : n ≤ 1099511627776) (hc : n ≤ c) (w : World) (hs : s + 1 < w.heap.size) (h1 : w.heap[s]? = some (.cells #[.slice (some ⟨g, 0, none⟩) n c] SPT (0, 0))) (h2 : w.heap[s + 1]? = some (.cells #[.int .i64 2] 3 (0, 0))) :
    SeqStopsK Fence.wide m Try.prog CHK1 #[.pointer (some ⟨s, 0, none⟩), .pointer (some ⟨s + 1, 0, none⟩)] (fun j : PC n => #[piece g n j.1]) (K2 s) (fun ys => nos ys = List.range ((n + 1) / 2)) (fun _ => True) ((n + 1) / 2) w := fun l J Jx W hW hJ hJx hY h0 =>
  ichunk1_in m l s g n c hn hc J Jx (fun pre W h => hJ pre W W.drew none h ⟨rfl, rfl, rfl, Nat.le_refl _, fun _ _ _ => rfl⟩ (fun r e => by cases e)) hY W ((hW.block s (by omega)).trans h1) ((hW.block (s + 1) (by omega)).trans h2) h0
theorem K2.t {s : Nat} {A B C : World} (h : K2 s A B) (k : K2 s B C) : K2 s A C := h.trans k
theorem K2.b {s : Nat} {w : World} (hs : s + 1 < w.heap.size) (W : World) (l : Nat) (o o' : Obj) (hl : w.heap.size ≤ l) (h : W.heap[l]? = some o) (_ : o.isCells = false) (_ : o.isWalk = false) : K2 s W (W.putObj l o') :=
  fun k u hk hu => (World.putObj_heap_other (by omega)).trans hu
theorem box_joined {w W W1 : World} {Ts : List T} {s B c : Nat} {pre : List Nat} {A : Option Addr} {bs : List Nat} {p q : Nat} (h : St w Ts s B pre W A c bs) (hp : p ∈ heads Ts) (hq : q ∈ heads Ts) (hJ : Joined W W1 p q) :
    Boxed W1 B SPT (.slice A bs.length c) ∧ RowR RP (W1.alloc (.cells #[.pointer (some ⟨W.heap.size, 0, none⟩)] PT)) A bs.length c (raws bs) := by
  obtain ⟨xl, ll, rl, al, nl⟩ := h.nodes _ hp
  obtain ⟨xm, lm, rm, am, nm⟩ := h.nodes _ hq
  have ne_nd : ∀ {k : Nat} {cs : Array Value} {t : TypeId} {x' : Int} {l' r' a' : Option Nat} {b : Nat}, W.heap[k]? = some (.cells cs t (0, 0)) → t ≠ NT → Nd W b x' l' r' a' → k ≠ b := fun h1 h2 h3 e => by
    subst e
    exact h2 (nt_ne h3 h1)
  have r1 : Row W1 A bs.length c bs := h.row.keep fun a cur e h1 => (hJ.block _ (Array.getElem?_eq_some_iff.1 h1).1 (ne_nd h1 (by decide) nl) (ne_nd h1 (by decide) nm)).trans h1
  exact ⟨(hJ.block B h.box.lt (ne_nd h.box (by decide) nl) (ne_nd h.box (by decide) nm)).trans h.box, r1.1, r1.2, r1.row.alloc _⟩
theorem heads_ne {w : World} {Ts : List T} (h : Lvl w Ts) {i : Nat} {l m : T} (hl : Ts[i]? = some l) (hm : Ts[i + 1]? = some m) : l.b ≠ m.b := by
  have hlt := (List.getElem?_eq_some_iff.1 hm).1
  obtain ⟨l', m', q1, q2, q3, q4⟩ := drop_two hlt
  rw [hl] at q1
  rw [hm] at q2
  cases q1
  cases q2
  have e : Ts = Ts.take i ++ l :: m :: Ts.drop (i + 2) := by rw [← q3, List.take_append_drop]
  have hn := h.nd
  rw [e, alls_app] at hn
  have h2 := (List.nodup_append.1 hn).2.1
  have e2 : alls (l :: m :: Ts.drop (i + 2)) = l.bs ++ (m.bs ++ alls (Ts.drop (i + 2))) := by simp [alls]
  rw [e2] at h2
  exact (List.nodup_append.1 h2).2.2 l.b l.b_mem m.b (List.mem_append_left _ m.b_mem)
set_option maxHeartbeats 4000000 in
theorem ilevelAbove_any (A0 : Option Addr) (n c : Nat) (Ts : List T) (w : World) (hr : Row w A0 n c (heads Ts)) (hl : Lvl w Ts) (h1 : 1 < n) (hn : n ≤ 68719476735) :
    Calls Try.prog 59 #[.slice A0 n c] w fun e w' => ∃ A c' Us, e = .returned (.slice A Us.length c') ∧ Row w' A Us.length c' (heads Us) ∧ (∀ a, A = some a → w.heap.size ≤ a.block) ∧ (∀ b, b ∈ heads Us → b ∈ heads Ts ∨ w.heap.size ≤ b) ∧ Up Ts Us ∧ Lvl w' Us ∧ Mv (· ∈ heads Ts) w w' := by
  obtain ⟨g, rfl, hnc, ⟨cur, hg⟩, hget⟩ := hr.get (by omega)
  have hlen : Ts.length = n := by rw [← heads_len]; exact hr.len
  have HG := Lib.hid hg
  have HGET := Lib.hid hget
  have HL := Lib.hid hl
  have HW := Lib.hid (show ∀ b, b ∈ heads Ts → b < w.heap.size from fun b hb => by
    obtain ⟨t, ht, rfl⟩ := List.mem_map.1 hb
    exact (hl.is t ht).lt _ t.b_mem)
  have HLEN := Lib.hid hlen
  clear hg hget hl hr hlen
  have hq : Int.tdiv (n : Int) 2 = ((n / 2 : Nat) : Int) := (Int.ofNat_tdiv n 2).symm
  obtain ⟨hu, hk, i, z, i1, i2, i3, i4, i5⟩ := tiP
  change Try.prog.underlying SPT = some (.slice PT) at hu
  change Try.prog.info? PT = some i at i1
  change i.size = 1 at i4
  refine (callsIn_wide (n := 5)).1 ?_
  refine callsIn_of_wp_marks Try.func59 rfl trivial ?_ rfl
  simp only [Try.ntmps59, List.size_toArray, List.length_cons, List.length_nil, Nat.reduceAdd, Nat.reduceSub, Array.replicate_succ, Array.replicate_zero, List.push_toArray, List.append_toArray, List.nil_append, List.cons_append]
  gi_wp2_with (first
    | (gi_at_make; refine wpListIn_make_own _ rfl _ _ SPT rfl 0 PT i z 1 hu i1 i2 i4 .i64 .i64 _ (n / 2 + 1) rfl rfl (by omega) (by have := Nat.mul_le_mul_right (n / 2 + 1) i5; omega) (by simp only [maxLen]; omega) (by omega) ?_; intro w1 hown1 hgr1; have HO1 := Lib.hid hown1; have HB1 := Lib.hid ((Below.refl w.heap.size w).grown hgr1 (Nat.le_refl _) (by simp)); clear hown1 hgr1)
    | (refine ⟨trivial, ?_⟩; gi_at_call 68; refine (callsIn_wide.2 (ichunk_any _ _ _ _)).mono ?_; rintro e w2 ⟨rfl, rfl⟩))
  have hs1 := HB1.out.size
  obtain ⟨B, hB⟩ : ∃ B, B = w1.heap.size := ⟨_, rfl⟩
  have bO := Boxed.new w1 SPT (.slice (some ⟨w.heap.size, 0, none⟩) 0 (n / 2 + 1))
  have bS := Boxed.new (w1.alloc (.cells #[.slice (some ⟨w.heap.size, 0, none⟩) 0 (n / 2 + 1)] SPT)) SPT (.slice (some ⟨g, 0, none⟩) n c)
  have bI := Boxed.new ((w1.alloc (.cells #[.slice (some ⟨w.heap.size, 0, none⟩) 0 (n / 2 + 1)] SPT)).alloc (.cells #[.slice (some ⟨g, 0, none⟩) n c] SPT)) 3 (.int .i64 2)
  have hB0 : Below w.heap.size w (((w1.alloc (.cells #[.slice (some ⟨w.heap.size, 0, none⟩) 0 (n / 2 + 1)] SPT)).alloc (.cells #[.slice (some ⟨g, 0, none⟩) n c] SPT)).alloc (.cells #[.int .i64 2] 3)) := ((HB1.out.alloc hs1 _).alloc (by simp; omega) _).alloc (by simp; omega) _
  have hR0 : Row (((w1.alloc (.cells #[.slice (some ⟨w.heap.size, 0, none⟩) 0 (n / 2 + 1)] SPT)).alloc (.cells #[.slice (some ⟨g, 0, none⟩) n c] SPT)).alloc (.cells #[.int .i64 2] 3)) (some ⟨w.heap.size, 0, none⟩) 0 (n / 2 + 1) [] := ⟨rfl, by simp [raws], ((HO1.out.alloc _).alloc _).alloc _⟩
  rw [World.size_alloc, World.size_alloc, ← hB] at bI
  rw [World.size_alloc, ← hB] at bS
  rw [← hB] at bO
  replace bO := (bO.alloc (.cells #[.slice (some ⟨g, 0, none⟩) n c] SPT)).alloc (.cells #[.int .i64 2] 3)
  replace bS := bS.alloc (.cells #[.int .i64 2] 3)
  have hsz : (((w1.alloc (.cells #[.slice (some ⟨w.heap.size, 0, none⟩) 0 (n / 2 + 1)] SPT)).alloc (.cells #[.slice (some ⟨g, 0, none⟩) n c] SPT)).alloc (.cells #[.int .i64 2] 3)).heap.size = B + 3 := by simp [hB]
  have HNODES := Lib.hid (show ∀ b, b ∈ heads Ts → ∃ x l r a, Nd w b x l r a from fun b hb => by
    obtain ⟨t, ht, rfl⟩ := List.mem_map.1 hb
    obtain ⟨x, l, r, h⟩ := (HL.out.is t ht).root.1
    exact ⟨x, l, r, none, h⟩)
  have HGW := Lib.hid (show ∀ W, Mv (· ∈ heads Ts) w W → W.heap[g]? = w.heap[g]? from fun W hm => hm.block g (Array.getElem?_eq_some_iff.1 HG.out).1 fun hb => by
    obtain ⟨cs, h⟩ := head_nd HL.out hb
    exact absurd (nt_ne h HG.out) (by decide))
  have hBw : w.heap.size ≤ B := by omega
  have HST := Lib.hid (show St w Ts (B + 1) B [] (((w1.alloc (.cells #[.slice (some ⟨w.heap.size, 0, none⟩) 0 (n / 2 + 1)] SPT)).alloc (.cells #[.slice (some ⟨g, 0, none⟩) n c] SPT)).alloc (.cells #[.int .i64 2] 3)) (some ⟨w.heap.size, 0, none⟩) (n / 2 + 1) [] from
    ⟨rfl, bO, hR0, fun a e => by injection e with e; subst e; exact Nat.le_refl _, by simp, Mv.of_below hB0,
     fun b hb => (HNODES.out b hb).imp fun x h => h.imp fun l h => h.imp fun r h => h.imp fun a h => (hB0.block b (Nd.lt (w := w) (b := b) (x := x) (l := l) (r := r) (a := a) h)).trans h,
     ⟨_, bS⟩, ⟨_, bI⟩, fun _ => ⟨[], rfl, .nil, HL.out.keep (Kp.below hB0 _)⟩⟩)
  have HSTOP := Lib.hid (ichunk_stops 4 (B + 1) g n c (by omega) hnc _ (by omega) bS bI)
  clear hB0 hR0 bO bS bI HO1 HB1
  rw [← hB]
  clear hB
  revert HST HSTOP hsz
  generalize (((w1.alloc (.cells #[.slice (some ⟨w.heap.size, 0, none⟩) 0 (n / 2 + 1)] SPT)).alloc (.cells #[.slice (some ⟨g, 0, none⟩) n c] SPT)).alloc (.cells #[.int .i64 2] 3)) = w3
  intro hsz HST HSTOP
  refine wpIn_rangeFunc_ownG rfl (by omega) (gf := 77) (lb := #[.pointer (some ⟨B + 1, 0, none⟩), .pointer (some ⟨B + 1 + 1, 0, none⟩)]) rfl trivial (enters_of Try.func77 (by kernel_rfl) rfl)
    HSTOP.out K2.t (K2.b (by omega)) (Below.refl _ _) (fun _ => rfl)
    (fun pre W => ∃ A c2 bs, St w Ts (B + 1) B (nos pre) W A c2 bs) (fun _ _ _ => False) ?own (fun _ _ _ _ _ hs _ _ => hs) ⟨_, _, _, HST.out⟩
    (fun x => { tmps := #[.slice (some ⟨g, 0, none⟩) n c, undef, .slice none 0 0, .pointer (some ⟨B, 0, none⟩), piece g n x.1, .slice (some ⟨g, 0, none⟩) n c, .int .i64 n, .int .i64 ((n : Int) / 2), .int .i64 ((n : Int) / 2 + 1), .slice (some ⟨w.heap.size, 0, none⟩) 0 (n / 2 + 1), .slice (some ⟨g, 0, none⟩) n c, .func (.func CHK1) #[] #[.pointer (some ⟨B + 1, 0, none⟩), .pointer (some ⟨B + 1 + 1, 0, none⟩)], piece g n x.1, undef, undef, undef, undef, undef, undef, undef, undef, undef, undef, undef, undef, undef, undef, undef, undef, undef, undef, undef, undef], defers := [] }) ?assign ?body ?done ?stop
  case own =>
    rintro pre X Y row ⟨A, c2, bs, h⟩ hg hr
    exact ⟨A, c2, bs, h.tame (Tame.grown hg (fun r e => ⟨by have := (hr r e).1; omega, (hr r e).2⟩) h.mv.size)⟩
  case assign =>
    intro l x W K hK
    gi_wp2
    exact hK
  case body =>
    rintro l pre ⟨x, hx⟩ W ⟨A, c2, bs, hst⟩ hlen
    have hbl : bs.length < (n + 1) / 2 := by
      have := hst.len
      simp only [nos, List.length_map] at this
      omega
    have hgw := (HGW.out W hst.mv).trans HG.out
    have hbox := hst.box
    rcases Nat.lt_or_ge (2 * x + 1) n with h2n | h2n
    · dsimp only
      rw [piece_two h2n]
      obtain ⟨tl, htl⟩ : ∃ t, Ts[2 * x]? = some t := ⟨_, List.getElem?_eq_getElem (by rw [HLEN.out]; omega)⟩
      obtain ⟨tm, htm⟩ : ∃ t, Ts[2 * x + 1]? = some t := ⟨_, List.getElem?_eq_getElem (by rw [HLEN.out]; omega)⟩
      have hne := heads_ne HL.out htl htm
      have hlh := in_heads htl
      have hmh := in_heads htm
      obtain ⟨xl, ll, rl, al, nl⟩ := hst.nodes _ hlh
      obtain ⟨xm, lm, rm, am, nm⟩ := hst.nodes _ hmh
      have HJ := Lib.hid (ijoin_any tl.b tm.b W.drew nl nm hne)
      have HBX := Lib.hid (fun W1 (hj : Joined W.drew W1 tl.b tm.b) => box_joined hst.drew hlh hmh hj)
      have HRN := Lib.hid (fun W1 A2 c' W2 (hj : Joined W.drew W1 tl.b tm.b) (h2 : RowR RP W2 A2 (bs.length + 1) c' (raws bs ++ [[.pointer (some ⟨W.heap.size, 0, none⟩)]])) (hg : Gr A (W1.alloc (.cells #[.pointer (some ⟨W.heap.size, 0, none⟩)] PT)) A2 W2) => round_two (N := w3.heap.size) hst.drew HW.out hBw (Nat.lt_succ_self B) htl htm hj h2 hg)
      have d0 : W.cell? ⟨g, 2 * x, none⟩ = some (.pointer (some ⟨tl.b, 0, none⟩)) := (World.cell?_of_block (a := ⟨g, 2 * x, none⟩) (HGW.out W hst.mv)).trans (HGET.out (2 * x) tl.b (by unfold heads; rw [List.getElem?_map, htl]; rfl))
      have d1 : W.cell? ⟨g, 2 * x + 1, none⟩ = some (.pointer (some ⟨tm.b, 0, none⟩)) := (World.cell?_of_block (a := ⟨g, 2 * x + 1, none⟩) (HGW.out W hst.mv)).trans (HGET.out (2 * x + 1) tm.b (by unfold heads; rw [List.getElem?_map, htm]; rfl))
      have e0 : W.drew.cell? ⟨g, 2 * x, none⟩ = some (.pointer (some ⟨tl.b, 0, none⟩)) := d0
      have e1 : W.drew.cell? ⟨g, 2 * x + 1, none⟩ = some (.pointer (some ⟨tm.b, 0, none⟩)) := d1
      have eb : W.drew.cell? ⟨B, 0, none⟩ = some (.slice A bs.length c2) := hbox.cell
      clear d0 d1 nl nm hne hlh hmh htl htm hst hbox hgw
      generalize tl.b = lb at *
      generalize tm.b = mb at *
      gi_wp2
      refine region_round (by kernel_rfl) (by kernel_rfl) (fun _ _ h => h) ?_
      refine wpAny_take (i := 1) (v := .slice (some ⟨g, 2 * x, none⟩) 2 2) rfl (by kernel_rfl) (by kernel_rfl) (by kernel_rfl) (fun _ _ _ h => h) (Or.inl ⟨by rfl, fun w => ?_⟩) ?_
      · go_simp
      refine wpAny_take (i := 2) (v := .pointer (some ⟨g, 2 * x, none⟩)) rfl (by kernel_rfl) (by kernel_rfl) (by kernel_rfl) (fun _ _ _ h => h) (Or.inl ⟨by rfl, fun w => ?_⟩) ?_
      · go_simp
      refine wpAny_take (i := 4) (v := .slice (some ⟨g, 2 * x, none⟩) 2 2) rfl (by kernel_rfl) (by kernel_rfl) (by kernel_rfl) (fun _ _ _ h => h) (Or.inl ⟨by rfl, fun w => ?_⟩) ?_
      · go_simp
      refine wpAny_take (i := 5) (v := .pointer (some ⟨g, 2 * x + 1, none⟩)) rfl (by kernel_rfl) (by kernel_rfl) (by kernel_rfl) (fun _ _ _ h => h) (Or.inl ⟨by rfl, fun w => ?_⟩) ?_
      · go_simp
      refine wpAny_ready (rs := [0, 3, 6]) (by kernel_rfl) (by simp) ?_
      refine AllReady.cons rfl (fun K hK => ?_) ?_
      · go_simp
        refine hK _ _ ?_
        clear hK K
        refine wpAny_ready (rs := [3, 6]) (by kernel_rfl) (by simp) ?_
        refine AllReady.cons rfl (fun K hK => ?_) ?_
        · go_simp
          refine hK _ _ ?_
          clear hK K
          refine wpAny_ready (rs := [6]) (by kernel_rfl) (by simp) ?_
          refine AllReady.cons rfl (fun K hK => ?_) ?_
          · go_simp
            refine hK _ _ ?_
            clear hK K
            refine wpAny_ready (rs := [7]) (by kernel_rfl) (by simp) ?_
            refine AllReady.cons rfl (fun K hK => ?_) ?_
            · go_simp
              go_at_call 69
              refine HJ.out.mono ?_
              rintro e W1 ⟨rfl, hj⟩
              have HJ1 := Lib.hid hj
              clear hj
              obtain ⟨hx1, hr1⟩ := HBX.out W1 HJ1.out
              have k1 := hx1.cell
              have k2 := (hx1.alloc (.cells #[.pointer (some ⟨W.heap.size, 0, none⟩)] PT)).cell
              have HR1 := Lib.hid hr1
              clear hx1 hr1
              go_simp
              refine hK _ _ ?_
              clear hK K
              refine wpAny_ready (rs := [8]) (by kernel_rfl) (by simp) ?_
              refine AllReady.cons rfl (fun K hK => ?_) ?_
              · go_simp
                refine hK _ _ ?_
                clear hK K
                refine wpAny_ready (rs := [9]) (by kernel_rfl) (by simp) ?_
                refine AllReady.cons rfl (fun K hK => ?_) ?_
                · refine step_appR tiP rfl (.tmp 22) (.tmp 30) rfl rfl HR1.out rfl (src_new W1 (cs := [.pointer (some ⟨W.heap.size, 0, none⟩)]) rfl (by simp [Value.oneCell']) PT) (by omega) ?_
                  intro A2 c2 W2 hrow2 hgr2
                  obtain ⟨q1, q2, q3, q4⟩ := HRN.out W1 A2 c2 W2 HJ1.out hrow2 hgr2
                  clear hrow2 hgr2
                  have QC := q1.cell
                  have QF := q1.frozen
                  have Q2 := Lib.hid q2
                  have Q3 := Lib.hid q3
                  have Q4 := Lib.hid q4
                  clear q1 q2 q3 q4
                  refine hK _ _ ?_
                  clear hK K
                  refine wpAny_ready (rs := [10]) (by kernel_rfl) (by simp) ?_
                  refine AllReady.cons rfl (fun K hK => ?_) ?_
                  · go_simp
                    refine hK _ _ ?_
                    clear hK K
                    refine wpAny_done (by kernel_rfl) ?_ _
                    gi_wp2
                    exact ⟨⟨Q3.out.size, Q3.out.same⟩, fun k o hk ho => Q4.out k o hk ho, _, _, _, by rw [nos_app]; exact Q2.out⟩
                  exact AllReady.nil
                exact AllReady.nil
              exact AllReady.nil
            exact AllReady.nil
          exact AllReady.nil
        refine AllReady.cons rfl (fun K hK => ?_) ?_
        · go_simp
          refine hK _ _ ?_
          clear hK K
          refine wpAny_ready (rs := [3]) (by kernel_rfl) (by simp) ?_
          refine AllReady.cons rfl (fun K hK => ?_) ?_
          · go_simp
            refine hK _ _ ?_
            clear hK K
            refine wpAny_ready (rs := [7]) (by kernel_rfl) (by simp) ?_
            refine AllReady.cons rfl (fun K hK => ?_) ?_
            · go_simp
              go_at_call 69
              refine HJ.out.mono ?_
              rintro e W1 ⟨rfl, hj⟩
              have HJ1 := Lib.hid hj
              clear hj
              obtain ⟨hx1, hr1⟩ := HBX.out W1 HJ1.out
              have k1 := hx1.cell
              have k2 := (hx1.alloc (.cells #[.pointer (some ⟨W.heap.size, 0, none⟩)] PT)).cell
              have HR1 := Lib.hid hr1
              clear hx1 hr1
              go_simp
              refine hK _ _ ?_
              clear hK K
              refine wpAny_ready (rs := [8]) (by kernel_rfl) (by simp) ?_
              refine AllReady.cons rfl (fun K hK => ?_) ?_
              · go_simp
                refine hK _ _ ?_
                clear hK K
                refine wpAny_ready (rs := [9]) (by kernel_rfl) (by simp) ?_
                refine AllReady.cons rfl (fun K hK => ?_) ?_
                · refine step_appR tiP rfl (.tmp 22) (.tmp 30) rfl rfl HR1.out rfl (src_new W1 (cs := [.pointer (some ⟨W.heap.size, 0, none⟩)]) rfl (by simp [Value.oneCell']) PT) (by omega) ?_
                  intro A2 c2 W2 hrow2 hgr2
                  obtain ⟨q1, q2, q3, q4⟩ := HRN.out W1 A2 c2 W2 HJ1.out hrow2 hgr2
                  clear hrow2 hgr2
                  have QC := q1.cell
                  have QF := q1.frozen
                  have Q2 := Lib.hid q2
                  have Q3 := Lib.hid q3
                  have Q4 := Lib.hid q4
                  clear q1 q2 q3 q4
                  refine hK _ _ ?_
                  clear hK K
                  refine wpAny_ready (rs := [10]) (by kernel_rfl) (by simp) ?_
                  refine AllReady.cons rfl (fun K hK => ?_) ?_
                  · go_simp
                    refine hK _ _ ?_
                    clear hK K
                    refine wpAny_done (by kernel_rfl) ?_ _
                    gi_wp2
                    exact ⟨⟨Q3.out.size, Q3.out.same⟩, fun k o hk ho => Q4.out k o hk ho, _, _, _, by rw [nos_app]; exact Q2.out⟩
                  exact AllReady.nil
                exact AllReady.nil
              exact AllReady.nil
            exact AllReady.nil
          exact AllReady.nil
        exact AllReady.nil
      refine AllReady.cons rfl (fun K hK => ?_) ?_
      · go_simp
        refine hK _ _ ?_
        clear hK K
        refine wpAny_ready (rs := [0, 6]) (by kernel_rfl) (by simp) ?_
        refine AllReady.cons rfl (fun K hK => ?_) ?_
        · go_simp
          refine hK _ _ ?_
          clear hK K
          refine wpAny_ready (rs := [6]) (by kernel_rfl) (by simp) ?_
          refine AllReady.cons rfl (fun K hK => ?_) ?_
          · go_simp
            refine hK _ _ ?_
            clear hK K
            refine wpAny_ready (rs := [7]) (by kernel_rfl) (by simp) ?_
            refine AllReady.cons rfl (fun K hK => ?_) ?_
            · go_simp
              go_at_call 69
              refine HJ.out.mono ?_
              rintro e W1 ⟨rfl, hj⟩
              have HJ1 := Lib.hid hj
              clear hj
              obtain ⟨hx1, hr1⟩ := HBX.out W1 HJ1.out
              have k1 := hx1.cell
              have k2 := (hx1.alloc (.cells #[.pointer (some ⟨W.heap.size, 0, none⟩)] PT)).cell
              have HR1 := Lib.hid hr1
              clear hx1 hr1
              go_simp
              refine hK _ _ ?_
              clear hK K
              refine wpAny_ready (rs := [8]) (by kernel_rfl) (by simp) ?_
              refine AllReady.cons rfl (fun K hK => ?_) ?_
              · go_simp
                refine hK _ _ ?_
                clear hK K
                refine wpAny_ready (rs := [9]) (by kernel_rfl) (by simp) ?_
                refine AllReady.cons rfl (fun K hK => ?_) ?_
                · refine step_appR tiP rfl (.tmp 22) (.tmp 30) rfl rfl HR1.out rfl (src_new W1 (cs := [.pointer (some ⟨W.heap.size, 0, none⟩)]) rfl (by simp [Value.oneCell']) PT) (by omega) ?_
                  intro A2 c2 W2 hrow2 hgr2
                  obtain ⟨q1, q2, q3, q4⟩ := HRN.out W1 A2 c2 W2 HJ1.out hrow2 hgr2
                  clear hrow2 hgr2
                  have QC := q1.cell
                  have QF := q1.frozen
                  have Q2 := Lib.hid q2
                  have Q3 := Lib.hid q3
                  have Q4 := Lib.hid q4
                  clear q1 q2 q3 q4
                  refine hK _ _ ?_
                  clear hK K
                  refine wpAny_ready (rs := [10]) (by kernel_rfl) (by simp) ?_
                  refine AllReady.cons rfl (fun K hK => ?_) ?_
                  · go_simp
                    refine hK _ _ ?_
                    clear hK K
                    refine wpAny_done (by kernel_rfl) ?_ _
                    gi_wp2
                    exact ⟨⟨Q3.out.size, Q3.out.same⟩, fun k o hk ho => Q4.out k o hk ho, _, _, _, by rw [nos_app]; exact Q2.out⟩
                  exact AllReady.nil
                exact AllReady.nil
              exact AllReady.nil
            exact AllReady.nil
          exact AllReady.nil
        refine AllReady.cons rfl (fun K hK => ?_) ?_
        · go_simp
          refine hK _ _ ?_
          clear hK K
          refine wpAny_ready (rs := [0, 7]) (by kernel_rfl) (by simp) ?_
          refine AllReady.cons rfl (fun K hK => ?_) ?_
          · go_simp
            refine hK _ _ ?_
            clear hK K
            refine wpAny_ready (rs := [7]) (by kernel_rfl) (by simp) ?_
            refine AllReady.cons rfl (fun K hK => ?_) ?_
            · go_simp
              go_at_call 69
              refine HJ.out.mono ?_
              rintro e W1 ⟨rfl, hj⟩
              have HJ1 := Lib.hid hj
              clear hj
              obtain ⟨hx1, hr1⟩ := HBX.out W1 HJ1.out
              have k1 := hx1.cell
              have k2 := (hx1.alloc (.cells #[.pointer (some ⟨W.heap.size, 0, none⟩)] PT)).cell
              have HR1 := Lib.hid hr1
              clear hx1 hr1
              go_simp
              refine hK _ _ ?_
              clear hK K
              refine wpAny_ready (rs := [8]) (by kernel_rfl) (by simp) ?_
              refine AllReady.cons rfl (fun K hK => ?_) ?_
              · go_simp
                refine hK _ _ ?_
                clear hK K
                refine wpAny_ready (rs := [9]) (by kernel_rfl) (by simp) ?_
                refine AllReady.cons rfl (fun K hK => ?_) ?_
                · refine step_appR tiP rfl (.tmp 22) (.tmp 30) rfl rfl HR1.out rfl (src_new W1 (cs := [.pointer (some ⟨W.heap.size, 0, none⟩)]) rfl (by simp [Value.oneCell']) PT) (by omega) ?_
                  intro A2 c2 W2 hrow2 hgr2
                  obtain ⟨q1, q2, q3, q4⟩ := HRN.out W1 A2 c2 W2 HJ1.out hrow2 hgr2
                  clear hrow2 hgr2
                  have QC := q1.cell
                  have QF := q1.frozen
                  have Q2 := Lib.hid q2
                  have Q3 := Lib.hid q3
                  have Q4 := Lib.hid q4
                  clear q1 q2 q3 q4
                  refine hK _ _ ?_
                  clear hK K
                  refine wpAny_ready (rs := [10]) (by kernel_rfl) (by simp) ?_
                  refine AllReady.cons rfl (fun K hK => ?_) ?_
                  · go_simp
                    refine hK _ _ ?_
                    clear hK K
                    refine wpAny_done (by kernel_rfl) ?_ _
                    gi_wp2
                    exact ⟨⟨Q3.out.size, Q3.out.same⟩, fun k o hk ho => Q4.out k o hk ho, _, _, _, by rw [nos_app]; exact Q2.out⟩
                  exact AllReady.nil
                exact AllReady.nil
              exact AllReady.nil
            exact AllReady.nil
          refine AllReady.cons rfl (fun K hK => ?_) ?_
          · go_simp
            go_at_call 69
            refine HJ.out.mono ?_
            rintro e W1 ⟨rfl, hj⟩
            have HJ1 := Lib.hid hj
            clear hj
            obtain ⟨hx1, hr1⟩ := HBX.out W1 HJ1.out
            have k1 := hx1.cell
            have k2 := (hx1.alloc (.cells #[.pointer (some ⟨W.heap.size, 0, none⟩)] PT)).cell
            have HR1 := Lib.hid hr1
            clear hx1 hr1
            go_simp
            refine hK _ _ ?_
            clear hK K
            refine wpAny_ready (rs := [0, 8]) (by kernel_rfl) (by simp) ?_
            refine AllReady.cons rfl (fun K hK => ?_) ?_
            · go_simp
              refine hK _ _ ?_
              clear hK K
              refine wpAny_ready (rs := [8]) (by kernel_rfl) (by simp) ?_
              refine AllReady.cons rfl (fun K hK => ?_) ?_
              · go_simp
                refine hK _ _ ?_
                clear hK K
                refine wpAny_ready (rs := [9]) (by kernel_rfl) (by simp) ?_
                refine AllReady.cons rfl (fun K hK => ?_) ?_
                · refine step_appR tiP rfl (.tmp 22) (.tmp 30) rfl rfl HR1.out rfl (src_new W1 (cs := [.pointer (some ⟨W.heap.size, 0, none⟩)]) rfl (by simp [Value.oneCell']) PT) (by omega) ?_
                  intro A2 c2 W2 hrow2 hgr2
                  obtain ⟨q1, q2, q3, q4⟩ := HRN.out W1 A2 c2 W2 HJ1.out hrow2 hgr2
                  clear hrow2 hgr2
                  have QC := q1.cell
                  have QF := q1.frozen
                  have Q2 := Lib.hid q2
                  have Q3 := Lib.hid q3
                  have Q4 := Lib.hid q4
                  clear q1 q2 q3 q4
                  refine hK _ _ ?_
                  clear hK K
                  refine wpAny_ready (rs := [10]) (by kernel_rfl) (by simp) ?_
                  refine AllReady.cons rfl (fun K hK => ?_) ?_
                  · go_simp
                    refine hK _ _ ?_
                    clear hK K
                    refine wpAny_done (by kernel_rfl) ?_ _
                    gi_wp2
                    exact ⟨⟨Q3.out.size, Q3.out.same⟩, fun k o hk ho => Q4.out k o hk ho, _, _, _, by rw [nos_app]; exact Q2.out⟩
                  exact AllReady.nil
                exact AllReady.nil
              exact AllReady.nil
            refine AllReady.cons rfl (fun K hK => ?_) ?_
            · go_simp
              refine hK _ _ ?_
              clear hK K
              refine wpAny_ready (rs := [0]) (by kernel_rfl) (by simp) ?_
              refine AllReady.cons rfl (fun K hK => ?_) ?_
              · go_simp
                refine hK _ _ ?_
                clear hK K
                refine wpAny_ready (rs := [9]) (by kernel_rfl) (by simp) ?_
                refine AllReady.cons rfl (fun K hK => ?_) ?_
                · refine step_appR tiP rfl (.tmp 22) (.tmp 30) rfl rfl HR1.out rfl (src_new W1 (cs := [.pointer (some ⟨W.heap.size, 0, none⟩)]) rfl (by simp [Value.oneCell']) PT) (by omega) ?_
                  intro A2 c2 W2 hrow2 hgr2
                  obtain ⟨q1, q2, q3, q4⟩ := HRN.out W1 A2 c2 W2 HJ1.out hrow2 hgr2
                  clear hrow2 hgr2
                  have QC := q1.cell
                  have QF := q1.frozen
                  have Q2 := Lib.hid q2
                  have Q3 := Lib.hid q3
                  have Q4 := Lib.hid q4
                  clear q1 q2 q3 q4
                  refine hK _ _ ?_
                  clear hK K
                  refine wpAny_ready (rs := [10]) (by kernel_rfl) (by simp) ?_
                  refine AllReady.cons rfl (fun K hK => ?_) ?_
                  · go_simp
                    refine hK _ _ ?_
                    clear hK K
                    refine wpAny_done (by kernel_rfl) ?_ _
                    gi_wp2
                    exact ⟨⟨Q3.out.size, Q3.out.same⟩, fun k o hk ho => Q4.out k o hk ho, _, _, _, by rw [nos_app]; exact Q2.out⟩
                  exact AllReady.nil
                exact AllReady.nil
              exact AllReady.nil
            exact AllReady.nil
          exact AllReady.nil
        exact AllReady.nil
      refine AllReady.cons rfl (fun K hK => ?_) ?_
      · go_simp
        refine hK _ _ ?_
        clear hK K
        refine wpAny_ready (rs := [0, 3]) (by kernel_rfl) (by simp) ?_
        refine AllReady.cons rfl (fun K hK => ?_) ?_
        · go_simp
          refine hK _ _ ?_
          clear hK K
          refine wpAny_ready (rs := [3]) (by kernel_rfl) (by simp) ?_
          refine AllReady.cons rfl (fun K hK => ?_) ?_
          · go_simp
            refine hK _ _ ?_
            clear hK K
            refine wpAny_ready (rs := [7]) (by kernel_rfl) (by simp) ?_
            refine AllReady.cons rfl (fun K hK => ?_) ?_
            · go_simp
              go_at_call 69
              refine HJ.out.mono ?_
              rintro e W1 ⟨rfl, hj⟩
              have HJ1 := Lib.hid hj
              clear hj
              obtain ⟨hx1, hr1⟩ := HBX.out W1 HJ1.out
              have k1 := hx1.cell
              have k2 := (hx1.alloc (.cells #[.pointer (some ⟨W.heap.size, 0, none⟩)] PT)).cell
              have HR1 := Lib.hid hr1
              clear hx1 hr1
              go_simp
              refine hK _ _ ?_
              clear hK K
              refine wpAny_ready (rs := [8]) (by kernel_rfl) (by simp) ?_
              refine AllReady.cons rfl (fun K hK => ?_) ?_
              · go_simp
                refine hK _ _ ?_
                clear hK K
                refine wpAny_ready (rs := [9]) (by kernel_rfl) (by simp) ?_
                refine AllReady.cons rfl (fun K hK => ?_) ?_
                · refine step_appR tiP rfl (.tmp 22) (.tmp 30) rfl rfl HR1.out rfl (src_new W1 (cs := [.pointer (some ⟨W.heap.size, 0, none⟩)]) rfl (by simp [Value.oneCell']) PT) (by omega) ?_
                  intro A2 c2 W2 hrow2 hgr2
                  obtain ⟨q1, q2, q3, q4⟩ := HRN.out W1 A2 c2 W2 HJ1.out hrow2 hgr2
                  clear hrow2 hgr2
                  have QC := q1.cell
                  have QF := q1.frozen
                  have Q2 := Lib.hid q2
                  have Q3 := Lib.hid q3
                  have Q4 := Lib.hid q4
                  clear q1 q2 q3 q4
                  refine hK _ _ ?_
                  clear hK K
                  refine wpAny_ready (rs := [10]) (by kernel_rfl) (by simp) ?_
                  refine AllReady.cons rfl (fun K hK => ?_) ?_
                  · go_simp
                    refine hK _ _ ?_
                    clear hK K
                    refine wpAny_done (by kernel_rfl) ?_ _
                    gi_wp2
                    exact ⟨⟨Q3.out.size, Q3.out.same⟩, fun k o hk ho => Q4.out k o hk ho, _, _, _, by rw [nos_app]; exact Q2.out⟩
                  exact AllReady.nil
                exact AllReady.nil
              exact AllReady.nil
            exact AllReady.nil
          exact AllReady.nil
        refine AllReady.cons rfl (fun K hK => ?_) ?_
        · go_simp
          refine hK _ _ ?_
          clear hK K
          refine wpAny_ready (rs := [0, 7]) (by kernel_rfl) (by simp) ?_
          refine AllReady.cons rfl (fun K hK => ?_) ?_
          · go_simp
            refine hK _ _ ?_
            clear hK K
            refine wpAny_ready (rs := [7]) (by kernel_rfl) (by simp) ?_
            refine AllReady.cons rfl (fun K hK => ?_) ?_
            · go_simp
              go_at_call 69
              refine HJ.out.mono ?_
              rintro e W1 ⟨rfl, hj⟩
              have HJ1 := Lib.hid hj
              clear hj
              obtain ⟨hx1, hr1⟩ := HBX.out W1 HJ1.out
              have k1 := hx1.cell
              have k2 := (hx1.alloc (.cells #[.pointer (some ⟨W.heap.size, 0, none⟩)] PT)).cell
              have HR1 := Lib.hid hr1
              clear hx1 hr1
              go_simp
              refine hK _ _ ?_
              clear hK K
              refine wpAny_ready (rs := [8]) (by kernel_rfl) (by simp) ?_
              refine AllReady.cons rfl (fun K hK => ?_) ?_
              · go_simp
                refine hK _ _ ?_
                clear hK K
                refine wpAny_ready (rs := [9]) (by kernel_rfl) (by simp) ?_
                refine AllReady.cons rfl (fun K hK => ?_) ?_
                · refine step_appR tiP rfl (.tmp 22) (.tmp 30) rfl rfl HR1.out rfl (src_new W1 (cs := [.pointer (some ⟨W.heap.size, 0, none⟩)]) rfl (by simp [Value.oneCell']) PT) (by omega) ?_
                  intro A2 c2 W2 hrow2 hgr2
                  obtain ⟨q1, q2, q3, q4⟩ := HRN.out W1 A2 c2 W2 HJ1.out hrow2 hgr2
                  clear hrow2 hgr2
                  have QC := q1.cell
                  have QF := q1.frozen
                  have Q2 := Lib.hid q2
                  have Q3 := Lib.hid q3
                  have Q4 := Lib.hid q4
                  clear q1 q2 q3 q4
                  refine hK _ _ ?_
                  clear hK K
                  refine wpAny_ready (rs := [10]) (by kernel_rfl) (by simp) ?_
                  refine AllReady.cons rfl (fun K hK => ?_) ?_
                  · go_simp
                    refine hK _ _ ?_
                    clear hK K
                    refine wpAny_done (by kernel_rfl) ?_ _
                    gi_wp2
                    exact ⟨⟨Q3.out.size, Q3.out.same⟩, fun k o hk ho => Q4.out k o hk ho, _, _, _, by rw [nos_app]; exact Q2.out⟩
                  exact AllReady.nil
                exact AllReady.nil
              exact AllReady.nil
            exact AllReady.nil
          refine AllReady.cons rfl (fun K hK => ?_) ?_
          · go_simp
            go_at_call 69
            refine HJ.out.mono ?_
            rintro e W1 ⟨rfl, hj⟩
            have HJ1 := Lib.hid hj
            clear hj
            obtain ⟨hx1, hr1⟩ := HBX.out W1 HJ1.out
            have k1 := hx1.cell
            have k2 := (hx1.alloc (.cells #[.pointer (some ⟨W.heap.size, 0, none⟩)] PT)).cell
            have HR1 := Lib.hid hr1
            clear hx1 hr1
            go_simp
            refine hK _ _ ?_
            clear hK K
            refine wpAny_ready (rs := [0, 8]) (by kernel_rfl) (by simp) ?_
            refine AllReady.cons rfl (fun K hK => ?_) ?_
            · go_simp
              refine hK _ _ ?_
              clear hK K
              refine wpAny_ready (rs := [8]) (by kernel_rfl) (by simp) ?_
              refine AllReady.cons rfl (fun K hK => ?_) ?_
              · go_simp
                refine hK _ _ ?_
                clear hK K
                refine wpAny_ready (rs := [9]) (by kernel_rfl) (by simp) ?_
                refine AllReady.cons rfl (fun K hK => ?_) ?_
                · refine step_appR tiP rfl (.tmp 22) (.tmp 30) rfl rfl HR1.out rfl (src_new W1 (cs := [.pointer (some ⟨W.heap.size, 0, none⟩)]) rfl (by simp [Value.oneCell']) PT) (by omega) ?_
                  intro A2 c2 W2 hrow2 hgr2
                  obtain ⟨q1, q2, q3, q4⟩ := HRN.out W1 A2 c2 W2 HJ1.out hrow2 hgr2
                  clear hrow2 hgr2
                  have QC := q1.cell
                  have QF := q1.frozen
                  have Q2 := Lib.hid q2
                  have Q3 := Lib.hid q3
                  have Q4 := Lib.hid q4
                  clear q1 q2 q3 q4
                  refine hK _ _ ?_
                  clear hK K
                  refine wpAny_ready (rs := [10]) (by kernel_rfl) (by simp) ?_
                  refine AllReady.cons rfl (fun K hK => ?_) ?_
                  · go_simp
                    refine hK _ _ ?_
                    clear hK K
                    refine wpAny_done (by kernel_rfl) ?_ _
                    gi_wp2
                    exact ⟨⟨Q3.out.size, Q3.out.same⟩, fun k o hk ho => Q4.out k o hk ho, _, _, _, by rw [nos_app]; exact Q2.out⟩
                  exact AllReady.nil
                exact AllReady.nil
              exact AllReady.nil
            refine AllReady.cons rfl (fun K hK => ?_) ?_
            · go_simp
              refine hK _ _ ?_
              clear hK K
              refine wpAny_ready (rs := [0]) (by kernel_rfl) (by simp) ?_
              refine AllReady.cons rfl (fun K hK => ?_) ?_
              · go_simp
                refine hK _ _ ?_
                clear hK K
                refine wpAny_ready (rs := [9]) (by kernel_rfl) (by simp) ?_
                refine AllReady.cons rfl (fun K hK => ?_) ?_
                · refine step_appR tiP rfl (.tmp 22) (.tmp 30) rfl rfl HR1.out rfl (src_new W1 (cs := [.pointer (some ⟨W.heap.size, 0, none⟩)]) rfl (by simp [Value.oneCell']) PT) (by omega) ?_
                  intro A2 c2 W2 hrow2 hgr2
                  obtain ⟨q1, q2, q3, q4⟩ := HRN.out W1 A2 c2 W2 HJ1.out hrow2 hgr2
                  clear hrow2 hgr2
                  have QC := q1.cell
                  have QF := q1.frozen
                  have Q2 := Lib.hid q2
                  have Q3 := Lib.hid q3
                  have Q4 := Lib.hid q4
                  clear q1 q2 q3 q4
                  refine hK _ _ ?_
                  clear hK K
                  refine wpAny_ready (rs := [10]) (by kernel_rfl) (by simp) ?_
                  refine AllReady.cons rfl (fun K hK => ?_) ?_
                  · go_simp
                    refine hK _ _ ?_
                    clear hK K
                    refine wpAny_done (by kernel_rfl) ?_ _
                    gi_wp2
                    exact ⟨⟨Q3.out.size, Q3.out.same⟩, fun k o hk ho => Q4.out k o hk ho, _, _, _, by rw [nos_app]; exact Q2.out⟩
                  exact AllReady.nil
                exact AllReady.nil
              exact AllReady.nil
            exact AllReady.nil
          exact AllReady.nil
        exact AllReady.nil
      exact AllReady.nil
    · dsimp only
      rw [piece_one (show 2 * x + 1 = n by omega)]
      obtain ⟨tl, htl⟩ : ∃ t, Ts[2 * x]? = some t := ⟨_, List.getElem?_eq_getElem (by rw [HLEN.out]; omega)⟩
      have HRN := Lib.hid (fun A2 c' W2 (h2 : RowR RP W2 A2 (bs.length + 1) c' (raws bs ++ [[.pointer (some ⟨tl.b, 0, none⟩)]])) (hg : Gr A (W.drew.alloc (.cells #[.pointer (some ⟨tl.b, 0, none⟩)] PT)) A2 W2) => round_one (N := w3.heap.size) hst.drew HW.out hBw (Nat.lt_succ_self B) htl (by rw [HLEN.out]; omega) h2 hg)
      have d0 : W.cell? ⟨g, 2 * x, none⟩ = some (.pointer (some ⟨tl.b, 0, none⟩)) := (World.cell?_of_block (a := ⟨g, 2 * x, none⟩) (HGW.out W hst.mv)).trans (HGET.out (2 * x) tl.b (by unfold heads; rw [List.getElem?_map, htl]; rfl))
      have e0 : W.drew.cell? ⟨g, 2 * x, none⟩ = some (.pointer (some ⟨tl.b, 0, none⟩)) := d0
      have eb : W.drew.cell? ⟨B, 0, none⟩ = some (.slice A bs.length c2) := hbox.cell
      have HR1 := Lib.hid (show RowR RP (W.drew.alloc (.cells #[.pointer (some ⟨tl.b, 0, none⟩)] PT)) A bs.length c2 (raws bs) from ⟨hst.row.1, hst.row.2, RowR.row (hst.drew.row) |>.alloc _⟩)
      have ebk := (hst.box.alloc (.cells #[.pointer (some ⟨tl.b, 0, none⟩)] PT)).cell
      clear d0 htl hst hbox hgw
      generalize tl.b = lb at *
      gi_wp2
      refine region_round (by kernel_rfl) (by kernel_rfl) (fun _ _ h => h) ?_
      refine wpAny_take (i := 1) (v := .slice (some ⟨g, 2 * x, none⟩) 1 1) rfl (by kernel_rfl) (by kernel_rfl) (by kernel_rfl) (fun _ _ _ h => h) (Or.inl ⟨by rfl, fun w => ?_⟩) ?_
      · go_simp
      refine wpAny_take (i := 2) (v := .pointer (some ⟨g, 2 * x, none⟩)) rfl (by kernel_rfl) (by kernel_rfl) (by kernel_rfl) (fun _ _ _ h => h) (Or.inl ⟨by rfl, fun w => ?_⟩) ?_
      · go_simp
      refine wpAny_ready (rs := [0, 3]) (by kernel_rfl) (by simp) ?_
      refine AllReady.cons rfl (fun K hK => ?_) ?_
      · go_simp
        refine hK _ _ ?_
        clear hK K
        refine wpAny_ready (rs := [3]) (by kernel_rfl) (by simp) ?_
        refine AllReady.cons rfl (fun K hK => ?_) ?_
        · go_simp
          refine hK _ _ ?_
          clear hK K
          refine wpAny_ready (rs := [4]) (by kernel_rfl) (by simp) ?_
          refine AllReady.cons rfl (fun K hK => ?_) ?_
          · go_simp
            refine hK _ _ ?_
            clear hK K
            refine wpAny_ready (rs := [5]) (by kernel_rfl) (by simp) ?_
            refine AllReady.cons rfl (fun K hK => ?_) ?_
            · refine step_appR tiP rfl (.tmp 16) (.tmp 20) rfl rfl HR1.out rfl (src_new W.drew (cs := [.pointer (some ⟨lb, 0, none⟩)]) rfl (by simp [Value.oneCell']) PT) (by omega) ?_
              intro A2 c2 W2 hrow2 hgr2
              obtain ⟨q1, q2, q3, q4⟩ := HRN.out A2 c2 W2 hrow2 hgr2
              clear hrow2 hgr2
              have QC := q1.cell
              have QF := q1.frozen
              have Q2 := Lib.hid q2
              have Q3 := Lib.hid q3
              have Q4 := Lib.hid q4
              clear q1 q2 q3 q4
              refine hK _ _ ?_
              clear hK K
              refine wpAny_ready (rs := [6]) (by kernel_rfl) (by simp) ?_
              refine AllReady.cons rfl (fun K hK => ?_) ?_
              · go_simp
                refine hK _ _ ?_
                clear hK K
                refine wpAny_done (by kernel_rfl) ?_ _
                gi_wp2
                exact ⟨⟨Q3.out.size, Q3.out.same⟩, fun k o hk ho => Q4.out k o hk ho, _, _, _, by rw [nos_app]; exact Q2.out⟩
              exact AllReady.nil
            exact AllReady.nil
          exact AllReady.nil
        exact AllReady.nil
      refine AllReady.cons rfl (fun K hK => ?_) ?_
      · go_simp
        refine hK _ _ ?_
        clear hK K
        refine wpAny_ready (rs := [0, 4]) (by kernel_rfl) (by simp) ?_
        refine AllReady.cons rfl (fun K hK => ?_) ?_
        · go_simp
          refine hK _ _ ?_
          clear hK K
          refine wpAny_ready (rs := [4]) (by kernel_rfl) (by simp) ?_
          refine AllReady.cons rfl (fun K hK => ?_) ?_
          · go_simp
            refine hK _ _ ?_
            clear hK K
            refine wpAny_ready (rs := [5]) (by kernel_rfl) (by simp) ?_
            refine AllReady.cons rfl (fun K hK => ?_) ?_
            · refine step_appR tiP rfl (.tmp 16) (.tmp 20) rfl rfl HR1.out rfl (src_new W.drew (cs := [.pointer (some ⟨lb, 0, none⟩)]) rfl (by simp [Value.oneCell']) PT) (by omega) ?_
              intro A2 c2 W2 hrow2 hgr2
              obtain ⟨q1, q2, q3, q4⟩ := HRN.out A2 c2 W2 hrow2 hgr2
              clear hrow2 hgr2
              have QC := q1.cell
              have QF := q1.frozen
              have Q2 := Lib.hid q2
              have Q3 := Lib.hid q3
              have Q4 := Lib.hid q4
              clear q1 q2 q3 q4
              refine hK _ _ ?_
              clear hK K
              refine wpAny_ready (rs := [6]) (by kernel_rfl) (by simp) ?_
              refine AllReady.cons rfl (fun K hK => ?_) ?_
              · go_simp
                refine hK _ _ ?_
                clear hK K
                refine wpAny_done (by kernel_rfl) ?_ _
                gi_wp2
                exact ⟨⟨Q3.out.size, Q3.out.same⟩, fun k o hk ho => Q4.out k o hk ho, _, _, _, by rw [nos_app]; exact Q2.out⟩
              exact AllReady.nil
            exact AllReady.nil
          exact AllReady.nil
        refine AllReady.cons rfl (fun K hK => ?_) ?_
        · go_simp
          refine hK _ _ ?_
          clear hK K
          refine wpAny_ready (rs := [0]) (by kernel_rfl) (by simp) ?_
          refine AllReady.cons rfl (fun K hK => ?_) ?_
          · go_simp
            refine hK _ _ ?_
            clear hK K
            refine wpAny_ready (rs := [5]) (by kernel_rfl) (by simp) ?_
            refine AllReady.cons rfl (fun K hK => ?_) ?_
            · refine step_appR tiP rfl (.tmp 16) (.tmp 20) rfl rfl HR1.out rfl (src_new W.drew (cs := [.pointer (some ⟨lb, 0, none⟩)]) rfl (by simp [Value.oneCell']) PT) (by omega) ?_
              intro A2 c2 W2 hrow2 hgr2
              obtain ⟨q1, q2, q3, q4⟩ := HRN.out A2 c2 W2 hrow2 hgr2
              clear hrow2 hgr2
              have QC := q1.cell
              have QF := q1.frozen
              have Q2 := Lib.hid q2
              have Q3 := Lib.hid q3
              have Q4 := Lib.hid q4
              clear q1 q2 q3 q4
              refine hK _ _ ?_
              clear hK K
              refine wpAny_ready (rs := [6]) (by kernel_rfl) (by simp) ?_
              refine AllReady.cons rfl (fun K hK => ?_) ?_
              · go_simp
                refine hK _ _ ?_
                clear hK K
                refine wpAny_done (by kernel_rfl) ?_ _
                gi_wp2
                exact ⟨⟨Q3.out.size, Q3.out.same⟩, fun k o hk ho => Q4.out k o hk ho, _, _, _, by rw [nos_app]; exact Q2.out⟩
              exact AllReady.nil
            exact AllReady.nil
          exact AllReady.nil
        exact AllReady.nil
      exact AllReady.nil
  case done =>
    rintro D ys W hD hys ⟨A, c2, bs, h⟩ hK
    have hbox := h.box
    have hyl : (nos ys).length = (n + 1) / 2 := by rw [hys, List.length_range]
    have hc := hbox.cell
    have HT := Lib.hid (h.tame (Tame.grown (N := w.heap.size) (grownBy_putObj' W D (.deferred none)) (fun r e => by cases e; exact ⟨by omega, _, hK, rfl⟩) h.mv.size))
    clear h hbox
    gi_wp2
    refine ⟨by simp, .inl ⟨_, _, rfl, run_takeDeferred hK, ?_⟩⟩
    obtain ⟨Us', u1, u2, u3⟩ := HT.out.good (by rw [hyl, hys])
    rw [hyl, List.take_of_length_le (by rw [HLEN.out]; omega)] at u2
    rw [hyl, List.drop_eq_nil_of_le (by rw [HLEN.out]; omega), List.append_nil] at u3
    have hul : bs.length = Us'.length := by rw [u1, heads_len]
    refine ⟨_, results_tmp rfl _ _ _, A, c2, Us', by rw [← hul]; rfl, ?_, HT.out.fresh, by rw [← u1]; exact HT.out.src, u2, u3, HT.out.mv⟩
    rw [← u1, ← hul]
    exact HT.out.row
  case stop =>
    rintro D c pre W _ _ h _
    exact h.elim
end Go.Proofs.Ytcpfdhammhcoaaa.C10L
