/- The drawing functions of chapter 12. -/
import Derived.Test.YtbhhifoofapgiaaGreatD11B
import Derived.Test.YtbhhifoofapgiaaGreatC12SP
namespace Go.Proofs.YtbhhifoofapgiaaGreat.D12
set_option linter.unusedVariables false
set_option linter.unusedSimpArgs false
set_option maxRecDepth 100000
open Go.RowKit Mem MemS M02 M03 M04 M05 M08 M09 M09F C01 C02 C02B D01 D02 SL C04I C04S C05S C08S C09S C09SP Rep RepA RW R08 Q08 D04 D05 D08 RKA D10 M10 M10F M11 M12P M12 C10S R11 R12 C11S C12S C12SP BX D11 D11B
open D09 hiding kept_then
/-- what a draw shows: contents and a label -/
theorem drawProveAbsence_any (w : World) (A : Option Addr) (n c : Nat) (hn : n ≤ maxLen) (hr : BRow w w.heap.size A n) :
    Calls Tryz.prog 5 #[.slice A n c] w (DrPV w) := by
  have HP := Lib.hid (drawProveEntry_any w A n c hn hr)
  clear hr
  go_enter Tryz.func5, Tryz.ntmps5
  go_wp2_with fail
  refine HP.out.mono ?_
  rintro e w1 ⟨Al, nl, cl, l, s, rfl, hsl, hs, hown, hb⟩
  have H1 := Lib.hid hsl
  have H3 := Lib.hid hown
  have H4 := Lib.hid hb
  clear hsl hown hb
  go_wp2
  refine bodyPost_ret (v := .tuple #[.slice Al nl cl, .string s]) (by simp [results, Tryz.results5, go_sem]) rfl ⟨Al, nl, cl, l, s, rfl, H1.out, hs, H3.out, H4.out⟩
theorem kt_kept {g lo hi : Nat} {w w' w'' : World} (h : KT g lo hi w w') (hk : Kept g w' w'') : KT g lo hi w w'' :=
  ⟨hk.os.trans h.os, hk.tape.trans h.tape, hk.output.trans h.output, Nat.le_trans h.size hk.size, fun i h1 h2 h3 => (hk.block i (Nat.lt_of_lt_of_le h1 h.size) h2).trans (h.block i h1 h2 h3)⟩
theorem kt_kt {g lo hi x y : Nat} {w w' w'' : World} (h : KT g lo hi w w') (hk : KT g x y w' w'') (hxy : (x = y ∧ x = w'.heap.size) ∨ (lo ≤ x ∧ y ≤ hi)) : KT g lo hi w w'' :=
  ⟨hk.os.trans h.os, hk.tape.trans h.tape, hk.output.trans h.output, Nat.le_trans h.size hk.size, fun i h1 h2 h3 => (hk.block i (Nat.lt_of_lt_of_le h1 h.size) h2 (by omega)).trans (h.block i h1 h2 h3)⟩
theorem kt_puts {g lo hi b : Nat} {w : World} (hb : w.heap.size ≤ b) : ∀ (vals : List Value) (j : Nat) {w' : World}, KT g lo hi w w' → KT g lo hi w (puts w' b j vals)
  | [], _, _, h => h
  | v :: r, j, _, h => kt_puts hb r (j + 1) (KT.set_ (p := ⟨b, j, none⟩) h (.inr hb) v)
section
variable {w W V : World} {g b c j lo hi n q x y : Nat} {vals : List Value} {A : Option Addr} {zs : List Int} {α : Type} {R : Rep α} {F : List Nat} {cs : List Value} {a : α}
theorem pt_kt (e : puts W b j vals = V) (h : KT g lo hi w W) (hb : w.heap.size ≤ b) : KT g lo hi w V := by rw [← e]; exact kt_puts hb vals j h
theorem pt_ow (e : puts W b j vals = V) (h : R.own W F cs a) (hF : ∀ i, i ∈ F → i ≠ b) : R.own V F cs a := by rw [← e]; exact R.okeep h fun i hi _ => puts_keep (hF i hi) vals j
theorem pt_rw (e : puts W b j vals = V) (h : Rd .i64 W W.heap.size A n zs ∧ ∀ a, A = some a → (a.block < q ∨ q + 2 ≤ a.block) ∧ lo ≤ a.block) (hb : b = q ∨ b = q + 1) : Rd .i64 V V.heap.size A n zs ∧ ∀ a, A = some a → (a.block < q ∨ q + 2 ≤ a.block) ∧ lo ≤ a.block := by
  rw [← e]
  exact ⟨(rd_on h.1 fun a ea => puts_keep (by have := h.2 a ea; omega) vals j).more (by rw [puts_size]; exact Nat.le_refl _), h.2⟩
theorem ow_kept (h : R.own W F cs a) (hk : Kept g W V) (hF : ∀ i, i ∈ F → i ≠ g) : R.own V F cs a := R.okeep h fun i hi hl => hk.block i hl (hF i hi)
theorem ow_kt (h : R.own W F cs a) (hk : KT g x y W V) (hF : ∀ i, i ∈ F → i ≠ g ∧ (i < x ∨ y ≤ i)) : R.own V F cs a := R.okeep h fun i hi hl => hk.block i hl (hF i hi).1 (hF i hi).2
theorem ow_rd (h : R.own W F cs a) (hF : ∀ i, i ∈ F → lo ≤ i ∧ i < hi) : R.rd W (fun i => lo ≤ i ∧ i < W.heap.size) cs a := R.more (R.ord h) fun i hi => ⟨(hF i hi).1, R.olt h i hi⟩
theorem rw_rd {at_ : Int} {c : Nat} (h : Rd .i64 W W.heap.size A n zs ∧ ∀ a, A = some a → (a.block < q ∨ q + 2 ≤ a.block) ∧ lo ≤ a.block) (ha : In .i64 at_) (hn : n ≤ c) (hc : c ≤ maxLen) : RProof.rd W (fun i => lo ≤ i ∧ i < W.heap.size) [.int .i64 at_, .slice A n c] ⟨at_, zs⟩ := by
  have h1 := Rds.of_ints h.1
  exact ⟨[_], _, rfl, ⟨rfl, ha⟩, ⟨A, n, c, rfl, hn, hc, h1.len, fun hp => by
    obtain ⟨b, off, e, hlt, hcc⟩ := h1.cells hp
    exact ⟨b, off, e, ⟨(h.2 _ e).2, hlt⟩, hcc⟩⟩⟩
theorem zE_rd (w : World) (P : Nat → Prop) : REntry.rd w P [.string ⟨#[]⟩, .int .i64 0, .int .i64 0, .slice none 0 0] zeroE := by
  obtain ⟨F, a, u, e⟩ := zero_ownE w 0
  exact REntry.more (REntry.ord a) fun i hi => absurd (e i hi) (by omega)
theorem zP_rd (w : World) (P : Nat → Prop) : RProof.rd w P [.int .i64 0, .slice none 0 0] zeroP := by
  obtain ⟨F, a, u, e⟩ := zero_ownP w 0
  exact RProof.more (RProof.ord a) fun i hi => absurd (e i hi) (by omega)
theorem gap_rdP {P : Nat → Prop} {k : Gap} {A0 A1 A2 A3 : Option Addr} {n0 c0 n1 c1 n2 c2 n3 c3 : Nat} (h0 : In .i64 k.at_) (h1 : REntry.rd w P [.string k.before.label, .int .i64 k.before.kind, .int .i64 k.before.value, .slice A0 n0 c0] k.before) (h2 : REntry.rd w P [.string k.after.label, .int .i64 k.after.kind, .int .i64 k.after.value, .slice A1 n1 c1] k.after) (h3 : RProof.rd w P [.int .i64 k.left.at_, .slice A2 n2 c2] k.left) (h4 : RProof.rd w P [.int .i64 k.right.at_, .slice A3 n3 c3] k.right) :
    RGap.rd w P [.int .i64 k.at_, .string k.before.label, .int .i64 k.before.kind, .int .i64 k.before.value, .slice A0 n0 c0, .string k.after.label, .int .i64 k.after.kind, .int .i64 k.after.value, .slice A1 n1 c1, .int .i64 k.left.at_, .slice A2 n2 c2, .int .i64 k.right.at_, .slice A3 n3 c3] k :=
  ⟨[_], _, rfl, ⟨rfl, h0⟩, [_, _, _, _], _, rfl, h1, [_, _, _, _], _, rfl, h2, [_, _], _, rfl, h3, h4⟩
end
theorem els_nil {w : World} {Fe : List Nat} {raw : List (List Value)} {zs : List Int} (h : Els RI w Fe raw zs) : Fe = [] := by
  induction h with
  | nil => rfl
  | cons h1 _ ih => rw [ih, h1.1]; rfl
/-- the block of a proof's path alone -/
theorem one_own {w : World} {F : List Nat} {cs : List Value} {k : Proof} (h : RProof.own w F cs k) : ∃ A n c x y, cs = [.int .i64 k.at_, .slice A n c] ∧ In .i64 k.at_ ∧ x ≤ y ∧ y ≤ w.heap.size ∧ Mem.Own .i64 w x y A n c k.path ∧ ((x = y ∧ x = w.heap.size) ∨ (y = x + 1 ∧ x ∈ F)) := by
  obtain ⟨A, n, c, F1, rfl, rfl, h0, h1⟩ := RProof_set.1 h
  have hF : F = blk A := by
    obtain ⟨raw, Fe, _, e, _, h4⟩ := h1
    rw [e, els_nil h4, List.append_nil]
  rcases A with _ | a
  · exact ⟨none, n, c, w.heap.size, w.heap.size, rfl, h0, Nat.le_refl _, Nat.le_refl _, h1.ints (fun b hb => absurd hb (by rw [hF]; simp [blk])), .inl ⟨rfl, rfl⟩⟩
  · have hm : a.block ∈ F := by rw [hF]; simp [blk]
    have hl := h1.olt _ hm
    have hsub : ∀ b, b ∈ F → a.block ≤ b ∧ b < a.block + 1 := fun b hb => by
      rw [hF] at hb
      have : b = a.block := by simpa [blk] using hb
      omega
    exact ⟨some a, n, c, a.block, a.block + 1, rfl, h0, by omega, by omega, h1.ints hsub, .inr ⟨rfl, hm⟩⟩
def DrG (g lo hi : Nat) (w : World) (e : Ending) (w' : World) : Prop :=
  ∃ cs k, e = .returned (.agg (List.toArray cs)) ∧ RGap.rd w' (fun i => lo ≤ i ∧ i < w'.heap.size) cs k ∧ totGap k ≤ 100000 ∧ KT g lo hi w w'
set_option maxHeartbeats 8000000 in
theorem l12Bent_any (cs : List Value) (k : Gap) (w : World) (B g lo hi : Nat) (hc : Cur w B g) (hg : g < lo) (hh : hi ≤ w.heap.size) (hlh : lo ≤ hi) (ho : OwnI RGap w lo hi cs k) (hn0 : totEntry k.before ≤ 20000) (hn1 : totEntry k.after ≤ 20000) (hn2 : k.left.path.length ≤ 100) (hn3 : k.right.path.length ≤ 100) :
    Calls Tryz.prog 43 #[.pointer (some ⟨g, 0, none⟩), .agg cs.toArray] w (DrG g lo hi w) := by
  obtain ⟨F, hF, hnd, hrg⟩ := ho
  obtain ⟨A0, n0, c0, A1, n1, c1, A2, n2, c2, A3, n3, c3, F1, F2, F3, F4, rfl, hFF, hi0, o1, o2, o3, o4⟩ := RGap_set.1 hF
  have hgl := hc.lt
  have RF1 := Lib.hid (show ∀ i, i ∈ F1 → lo ≤ i ∧ i < hi from fun i hi => hrg i (by rw [hFF]; simp [hi]))
  have RF2 := Lib.hid (show ∀ i, i ∈ F2 → lo ≤ i ∧ i < hi from fun i hi => hrg i (by rw [hFF]; simp [hi]))
  have RF3 := Lib.hid (show ∀ i, i ∈ F3 → lo ≤ i ∧ i < hi from fun i hi => hrg i (by rw [hFF]; simp [hi]))
  have RF4 := Lib.hid (show ∀ i, i ∈ F4 → lo ≤ i ∧ i < hi from fun i hi => hrg i (by rw [hFF]; simp [hi]))
  have P1_3 := Lib.hid (show ∀ i, i ∈ F1 → i ∉ F3 from fun i g1 g2 => by
    rw [hFF] at hnd
    simp only [List.nodup_append, List.mem_append] at hnd
    grind)
  have P1_4 := Lib.hid (show ∀ i, i ∈ F1 → i ∉ F4 from fun i g1 g2 => by
    rw [hFF] at hnd
    simp only [List.nodup_append, List.mem_append] at hnd
    grind)
  have P2_3 := Lib.hid (show ∀ i, i ∈ F2 → i ∉ F3 from fun i g1 g2 => by
    rw [hFF] at hnd
    simp only [List.nodup_append, List.mem_append] at hnd
    grind)
  have P2_4 := Lib.hid (show ∀ i, i ∈ F2 → i ∉ F4 from fun i g1 g2 => by
    rw [hFF] at hnd
    simp only [List.nodup_append, List.mem_append] at hnd
    grind)
  have P3_4 := Lib.hid (show ∀ i, i ∈ F3 → i ∉ F4 from fun i g1 g2 => by
    rw [hFF] at hnd
    simp only [List.nodup_append, List.mem_append] at hnd
    grind)
  have P4_3 := Lib.hid (show ∀ i, i ∈ F4 → i ∉ F3 from fun i g1 g2 => by
    rw [hFF] at hnd
    simp only [List.nodup_append, List.mem_append] at hnd
    grind)
  have HI0 := Lib.hid hi0
  obtain ⟨V, hV⟩ : ∃ V, V = (w.alloc (.cells #[.int .i64 k.at_, .string k.before.label, .int .i64 k.before.kind, .int .i64 k.before.value, .slice A0 n0 c0, .string k.after.label, .int .i64 k.after.kind, .int .i64 k.after.value, .slice A1 n1 c1, .int .i64 k.left.at_, .slice A2 n2 c2, .int .i64 k.right.at_, .slice A3 n3 c3] 34)).alloc (.cells #[.int .i64 0, .string ⟨#[]⟩, .int .i64 0, .int .i64 0, .slice none 0 0, .string ⟨#[]⟩, .int .i64 0, .int .i64 0, .slice none 0 0, .int .i64 0, .slice none 0 0, .int .i64 0, .slice none 0 0] 34) := ⟨_, rfl⟩
  have hVs : V.heap.size = w.heap.size + 2 := by rw [hV]; simp
  have HX_1 := Lib.hid (show Box V w.heap.size [.int .i64 k.at_, .string k.before.label, .int .i64 k.before.kind, .int .i64 k.before.value, .slice A0 n0 c0, .string k.after.label, .int .i64 k.after.kind, .int .i64 k.after.value, .slice A1 n1 c1, .int .i64 k.left.at_, .slice A2 n2 c2, .int .i64 k.right.at_, .slice A3 n3 c3] from by
    rw [hV]
    exact (Box.new w #[.int .i64 k.at_, .string k.before.label, .int .i64 k.before.kind, .int .i64 k.before.value, .slice A0 n0 c0, .string k.after.label, .int .i64 k.after.kind, .int .i64 k.after.value, .slice A1 n1 c1, .int .i64 k.left.at_, .slice A2 n2 c2, .int .i64 k.right.at_, .slice A3 n3 c3] 34).alloc _)
  have HR_1 := Lib.hid (show Box V (w.heap.size + 1) [.int .i64 0, .string ⟨#[]⟩, .int .i64 0, .int .i64 0, .slice none 0 0, .string ⟨#[]⟩, .int .i64 0, .int .i64 0, .slice none 0 0, .int .i64 0, .slice none 0 0, .int .i64 0, .slice none 0 0] from by
    rw [hV]
    have := Box.new (w.alloc (.cells #[.int .i64 k.at_, .string k.before.label, .int .i64 k.before.kind, .int .i64 k.before.value, .slice A0 n0 c0, .string k.after.label, .int .i64 k.after.kind, .int .i64 k.after.value, .slice A1 n1 c1, .int .i64 k.left.at_, .slice A2 n2 c2, .int .i64 k.right.at_, .slice A3 n3 c3] 34)) #[.int .i64 0, .string ⟨#[]⟩, .int .i64 0, .int .i64 0, .slice none 0 0, .string ⟨#[]⟩, .int .i64 0, .int .i64 0, .slice none 0 0, .int .i64 0, .slice none 0 0, .int .i64 0, .slice none 0 0] 34
    simpa using this)
  have hbel : Below w.heap.size w V := by rw [hV]; exact ((Below.refl _ _).alloc (Nat.le_refl _) _).alloc (by simp) _
  have HK_1 := Lib.hid (show KT g lo hi w V from KT.of_kept (Kept.of_below hbel))
  have HC := Lib.hid (hc.below hbel)
  have HO1_1 := Lib.hid (show REntry.own V F1 [.string k.before.label, .int .i64 k.before.kind, .int .i64 k.before.value, .slice A0 n0 c0] k.before from ow_kept o1 (Kept.of_below (g := g) hbel) (fun i hi => by have := RF1.out i hi; omega))
  have HO2_1 := Lib.hid (show REntry.own V F2 [.string k.after.label, .int .i64 k.after.kind, .int .i64 k.after.value, .slice A1 n1 c1] k.after from ow_kept o2 (Kept.of_below (g := g) hbel) (fun i hi => by have := RF2.out i hi; omega))
  have HO3_1 := Lib.hid (show RProof.own V F3 [.int .i64 k.left.at_, .slice A2 n2 c2] k.left from ow_kept o3 (Kept.of_below (g := g) hbel) (fun i hi => by have := RF3.out i hi; omega))
  have HO4_1 := Lib.hid (show RProof.own V F4 [.int .i64 k.right.at_, .slice A3 n3 c3] k.right from ow_kept o4 (Kept.of_below (g := g) hbel) (fun i hi => by have := RF4.out i hi; omega))
  have HV := Lib.hid hV
  clear hV hbel hc hF hnd hrg hFF hi0 o1 o2 o3 o4
  go_enter Tryz.func43, Tryz.ntmps43
  go_wp2_with fail
  rw [show (w.alloc (.cells #[.int .i64 k.at_, .string k.before.label, .int .i64 k.before.kind, .int .i64 k.before.value, .slice A0 n0 c0, .string k.after.label, .int .i64 k.after.kind, .int .i64 k.after.value, .slice A1 n1 c1, .int .i64 k.left.at_, .slice A2 n2 c2, .int .i64 k.right.at_, .slice A3 n3 c3] 34)).alloc (.cells #[.int .i64 0, .string ⟨#[]⟩, .int .i64 0, .int .i64 0, .slice none 0 0, .string ⟨#[]⟩, .int .i64 0, .int .i64 0, .slice none 0 0, .int .i64 0, .slice none 0 0, .int .i64 0, .slice none 0 0] 34) = V from HV.out.symm]
  refine (l1Below_any 10 V B g HC.out).mono ?_
  rintro e W1 ⟨v, ⟨x, hx0, hx1, rfl⟩, rfl, hc1, hk1⟩
  have HX_2 := Lib.hid (bxK HX_1.out hk1 (by omega))
  have HR_2 := Lib.hid (bxK HR_1.out hk1 (by omega))
  have HK_2 := Lib.hid (kt_kept HK_1.out hk1)
  have HO1_2 := Lib.hid (ow_kept HO1_1.out hk1 (fun i hi => by have := RF1.out i hi; omega))
  have HO2_2 := Lib.hid (ow_kept HO2_1.out hk1 (fun i hi => by have := RF2.out i hi; omega))
  have HO3_2 := Lib.hid (ow_kept HO3_1.out hk1 (fun i hi => by have := RF3.out i hi; omega))
  have HO4_2 := Lib.hid (ow_kept HO4_1.out hk1 (fun i hi => by have := RF4.out i hi; omega))
  have HC1 := Lib.hid hc1
  have hs1 : w.heap.size + 2 ≤ W1.heap.size := by have := hk1.size; omega
  have hne : w.heap.size + 1 ≠ w.heap.size := by omega
  have hne2 : w.heap.size ≠ w.heap.size + 1 := by omega
  clear hc1 hk1 hx1
  by_cases q0 : x = 0
  · subst q0
    have HI := Lib.hid (IRow.new (w := W1) (g := g) (cs := #[.int .i64 (-1), .int .i64 0, .int .i64 1, .int .i64 99]) (t := 3) (n := 4) HC1.out.lt (by decide +kernel) rfl)
    have HCA := Lib.hid (HC1.out.alloc (.cells #[.int .i64 (-1), .int .i64 0, .int .i64 1, .int .i64 99] 3))
    have HKA := Lib.hid ((Kept.refl g W1).alloc (.cells #[.int .i64 (-1), .int .i64 0, .int .i64 1, .int .i64 99] 3))
    go_wp2_with fail
    refine (l1Int_any _ _ _ (by omega) _ B g HCA.out HI.out).mono ?_
    rintro e W2 ⟨v, ⟨z, hz, rfl⟩, rfl, hc2, hk2⟩
    have hk3 := HKA.out.trans hk2
    have HX_3 := Lib.hid (bxK HX_2.out hk3 (by omega))
    have HR_3 := Lib.hid (bxK HR_2.out hk3 (by omega))
    have HK_3 := Lib.hid (kt_kept HK_2.out hk3)
    have HO1_3 := Lib.hid (ow_kept HO1_2.out hk3 (fun i hi => by have := RF1.out i hi; omega))
    have HO2_3 := Lib.hid (ow_kept HO2_2.out hk3 (fun i hi => by have := RF2.out i hi; omega))
    have HO3_3 := Lib.hid (ow_kept HO3_2.out hk3 (fun i hi => by have := RF3.out i hi; omega))
    have HO4_3 := Lib.hid (ow_kept HO4_2.out hk3 (fun i hi => by have := RF4.out i hi; omega))
    have HZ := Lib.hid (show In .i64 z from in_wf hz)
    clear hc2 hk2 hk3 hz
    have zX0 := HX_3.out.cell (j := 0) rfl
    have fX0 := HX_3.out.warm (j := 0) rfl
    have zX1 := HX_3.out.cell (j := 1) rfl
    have fX1 := HX_3.out.warm (j := 1) rfl
    have zX2 := HX_3.out.cell (j := 2) rfl
    have fX2 := HX_3.out.warm (j := 2) rfl
    have zX3 := HX_3.out.cell (j := 3) rfl
    have fX3 := HX_3.out.warm (j := 3) rfl
    have zX4 := HX_3.out.cell (j := 4) rfl
    have fX4 := HX_3.out.warm (j := 4) rfl
    have zX5 := HX_3.out.cell (j := 5) rfl
    have fX5 := HX_3.out.warm (j := 5) rfl
    have zX6 := HX_3.out.cell (j := 6) rfl
    have fX6 := HX_3.out.warm (j := 6) rfl
    have zX7 := HX_3.out.cell (j := 7) rfl
    have fX7 := HX_3.out.warm (j := 7) rfl
    have zX8 := HX_3.out.cell (j := 8) rfl
    have fX8 := HX_3.out.warm (j := 8) rfl
    have zX9 := HX_3.out.cell (j := 9) rfl
    have fX9 := HX_3.out.warm (j := 9) rfl
    have zX10 := HX_3.out.cell (j := 10) rfl
    have fX10 := HX_3.out.warm (j := 10) rfl
    have zX11 := HX_3.out.cell (j := 11) rfl
    have fX11 := HX_3.out.warm (j := 11) rfl
    have zX12 := HX_3.out.cell (j := 12) rfl
    have fX12 := HX_3.out.warm (j := 12) rfl
    have zR0 := HR_3.out.cell (j := 0) rfl
    have fR0 := HR_3.out.warm (j := 0) rfl
    have zR1 := HR_3.out.cell (j := 1) rfl
    have fR1 := HR_3.out.warm (j := 1) rfl
    have zR2 := HR_3.out.cell (j := 2) rfl
    have fR2 := HR_3.out.warm (j := 2) rfl
    have zR3 := HR_3.out.cell (j := 3) rfl
    have fR3 := HR_3.out.warm (j := 3) rfl
    have zR4 := HR_3.out.cell (j := 4) rfl
    have fR4 := HR_3.out.warm (j := 4) rfl
    have zR5 := HR_3.out.cell (j := 5) rfl
    have fR5 := HR_3.out.warm (j := 5) rfl
    have zR6 := HR_3.out.cell (j := 6) rfl
    have fR6 := HR_3.out.warm (j := 6) rfl
    have zR7 := HR_3.out.cell (j := 7) rfl
    have fR7 := HR_3.out.warm (j := 7) rfl
    have zR8 := HR_3.out.cell (j := 8) rfl
    have fR8 := HR_3.out.warm (j := 8) rfl
    have zR9 := HR_3.out.cell (j := 9) rfl
    have fR9 := HR_3.out.warm (j := 9) rfl
    have zR10 := HR_3.out.cell (j := 10) rfl
    have fR10 := HR_3.out.warm (j := 10) rfl
    have zR11 := HR_3.out.cell (j := 11) rfl
    have fR11 := HR_3.out.warm (j := 11) rfl
    have zR12 := HR_3.out.cell (j := 12) rfl
    have fR12 := HR_3.out.warm (j := 12) rfl
    go_wp2
    clear zX0 fX0 zX1 fX1 zX2 fX2 zX3 fX3 zX4 fX4 zX5 fX5 zX6 fX6 zX7 fX7 zX8 fX8 zX9 fX9 zX10 fX10 zX11 fX11 zX12 fX12 zR0 fR0 zR1 fR1 zR2 fR2 zR3 fR3 zR4 fR4 zR5 fR5 zR6 fR6 zR7 fR7 zR8 fR8 zR9 fR9 zR10 fR10 zR11 fR11 zR12 fR12
    obtain ⟨VX, hVX⟩ : ∃ V, puts W2 (w.heap.size) 0 [.int .i64 z] = V := ⟨_, rfl⟩
    have HX_4 := Lib.hid (show Box VX (w.heap.size) [.int .i64 z, .string k.before.label, .int .i64 k.before.kind, .int .i64 k.before.value, .slice A0 n0 c0, .string k.after.label, .int .i64 k.after.kind, .int .i64 k.after.value, .slice A1 n1 c1, .int .i64 k.left.at_, .slice A2 n2 c2, .int .i64 k.right.at_, .slice A3 n3 c3] from pt_self hVX HX_3.out (by simp))
    have HR_4 := Lib.hid (pt_box hVX HR_3.out (show (w.heap.size + 1) ≠ (w.heap.size) by omega))
    have HK_4 := Lib.hid (pt_kt hVX HK_3.out (show w.heap.size ≤ (w.heap.size) by omega))
    have HO1_4 := Lib.hid (pt_ow hVX HO1_3.out (fun i hi => by have := RF1.out i hi; omega))
    have HO2_4 := Lib.hid (pt_ow hVX HO2_3.out (fun i hi => by have := RF2.out i hi; omega))
    have HO3_4 := Lib.hid (pt_ow hVX HO3_3.out (fun i hi => by have := RF3.out i hi; omega))
    have HO4_4 := Lib.hid (pt_ow hVX HO4_3.out (fun i hi => by have := RF4.out i hi; omega))
    have HVX := Lib.hid hVX
    clear hVX
    rw [show W2.setCell ⟨w.heap.size, 0, none⟩ (.int .i64 z) = VX from HVX.out]
    obtain ⟨VF, hVF⟩ : ∃ V, puts VX (w.heap.size + 1) 0 [.int .i64 z, .string k.before.label, .int .i64 k.before.kind, .int .i64 k.before.value, .slice A0 n0 c0, .string k.after.label, .int .i64 k.after.kind, .int .i64 k.after.value, .slice A1 n1 c1, .int .i64 k.left.at_, .slice A2 n2 c2, .int .i64 k.right.at_, .slice A3 n3 c3] = V := ⟨_, rfl⟩
    have HX_5 := Lib.hid (pt_box hVF HX_4.out (show (w.heap.size) ≠ (w.heap.size + 1) by omega))
    have HR_5 := Lib.hid (show Box VF (w.heap.size + 1) [.int .i64 z, .string k.before.label, .int .i64 k.before.kind, .int .i64 k.before.value, .slice A0 n0 c0, .string k.after.label, .int .i64 k.after.kind, .int .i64 k.after.value, .slice A1 n1 c1, .int .i64 k.left.at_, .slice A2 n2 c2, .int .i64 k.right.at_, .slice A3 n3 c3] from pt_self hVF HR_4.out (by simp))
    have HK_5 := Lib.hid (pt_kt hVF HK_4.out (show w.heap.size ≤ (w.heap.size + 1) by omega))
    have HO1_5 := Lib.hid (pt_ow hVF HO1_4.out (fun i hi => by have := RF1.out i hi; omega))
    have HO2_5 := Lib.hid (pt_ow hVF HO2_4.out (fun i hi => by have := RF2.out i hi; omega))
    have HO3_5 := Lib.hid (pt_ow hVF HO3_4.out (fun i hi => by have := RF3.out i hi; omega))
    have HO4_5 := Lib.hid (pt_ow hVF HO4_4.out (fun i hi => by have := RF4.out i hi; omega))
    have HVF := Lib.hid hVF
    clear hVF
    rw [show ((((((((((((VX.setCell ⟨w.heap.size + 1, 0, none⟩ (.int .i64 z)).setCell ⟨w.heap.size + 1, 1, none⟩ (.string k.before.label)).setCell ⟨w.heap.size + 1, 2, none⟩ (.int .i64 k.before.kind)).setCell ⟨w.heap.size + 1, 3, none⟩ (.int .i64 k.before.value)).setCell ⟨w.heap.size + 1, 4, none⟩ (.slice A0 n0 c0)).setCell ⟨w.heap.size + 1, 5, none⟩ (.string k.after.label)).setCell ⟨w.heap.size + 1, 6, none⟩ (.int .i64 k.after.kind)).setCell ⟨w.heap.size + 1, 7, none⟩ (.int .i64 k.after.value)).setCell ⟨w.heap.size + 1, 8, none⟩ (.slice A1 n1 c1)).setCell ⟨w.heap.size + 1, 9, none⟩ (.int .i64 k.left.at_)).setCell ⟨w.heap.size + 1, 10, none⟩ (.slice A2 n2 c2)).setCell ⟨w.heap.size + 1, 11, none⟩ (.int .i64 k.right.at_)).setCell ⟨w.heap.size + 1, 12, none⟩ (.slice A3 n3 c3) = VF from HVF.out]
    have zR0 := HR_5.out.cell (j := 0) rfl
    have zR1 := HR_5.out.cell (j := 1) rfl
    have zR2 := HR_5.out.cell (j := 2) rfl
    have zR3 := HR_5.out.cell (j := 3) rfl
    have zR4 := HR_5.out.cell (j := 4) rfl
    have zR5 := HR_5.out.cell (j := 5) rfl
    have zR6 := HR_5.out.cell (j := 6) rfl
    have zR7 := HR_5.out.cell (j := 7) rfl
    have zR8 := HR_5.out.cell (j := 8) rfl
    have zR9 := HR_5.out.cell (j := 9) rfl
    have zR10 := HR_5.out.cell (j := 10) rfl
    have zR11 := HR_5.out.cell (j := 11) rfl
    have zR12 := HR_5.out.cell (j := 12) rfl
    refine bodyPost_ret (v := .agg #[.int .i64 z, .string k.before.label, .int .i64 k.before.kind, .int .i64 k.before.value, .slice A0 n0 c0, .string k.after.label, .int .i64 k.after.kind, .int .i64 k.after.value, .slice A1 n1 c1, .int .i64 k.left.at_, .slice A2 n2 c2, .int .i64 k.right.at_, .slice A3 n3 c3]) (by simp [results, Tryz.results43, go_sem, zR0, zR1, zR2, zR3, zR4, zR5, zR6, zR7, zR8, zR9, zR10, zR11, zR12]) rfl ⟨[.int .i64 z, .string k.before.label, .int .i64 k.before.kind, .int .i64 k.before.value, .slice A0 n0 c0, .string k.after.label, .int .i64 k.after.kind, .int .i64 k.after.value, .slice A1 n1 c1, .int .i64 k.left.at_, .slice A2 n2 c2, .int .i64 k.right.at_, .slice A3 n3 c3], ⟨z, k.before, k.after, k.left, k.right⟩, rfl, gap_rdP (k := ⟨z, k.before, k.after, k.left, k.right⟩) HZ.out (ow_rd HO1_5.out RF1.out) (ow_rd HO2_5.out RF2.out) (ow_rd HO3_5.out RF3.out) (ow_rd HO4_5.out RF4.out), by unfold totGap totProof; (try simp only); omega, HK_5.out⟩
  · have qb0 : (x == 0) = false := beq_eq_false_iff_ne.2 q0
    by_cases q1 : x = 1
    · subst q1
      have zX0 := HX_2.out.cell (j := 0) rfl
      have fX0 := HX_2.out.warm (j := 0) rfl
      have zX1 := HX_2.out.cell (j := 1) rfl
      have fX1 := HX_2.out.warm (j := 1) rfl
      have zX2 := HX_2.out.cell (j := 2) rfl
      have fX2 := HX_2.out.warm (j := 2) rfl
      have zX3 := HX_2.out.cell (j := 3) rfl
      have fX3 := HX_2.out.warm (j := 3) rfl
      have zX4 := HX_2.out.cell (j := 4) rfl
      have fX4 := HX_2.out.warm (j := 4) rfl
      have zX5 := HX_2.out.cell (j := 5) rfl
      have fX5 := HX_2.out.warm (j := 5) rfl
      have zX6 := HX_2.out.cell (j := 6) rfl
      have fX6 := HX_2.out.warm (j := 6) rfl
      have zX7 := HX_2.out.cell (j := 7) rfl
      have fX7 := HX_2.out.warm (j := 7) rfl
      have zX8 := HX_2.out.cell (j := 8) rfl
      have fX8 := HX_2.out.warm (j := 8) rfl
      have zX9 := HX_2.out.cell (j := 9) rfl
      have fX9 := HX_2.out.warm (j := 9) rfl
      have zX10 := HX_2.out.cell (j := 10) rfl
      have fX10 := HX_2.out.warm (j := 10) rfl
      have zX11 := HX_2.out.cell (j := 11) rfl
      have fX11 := HX_2.out.warm (j := 11) rfl
      have zX12 := HX_2.out.cell (j := 12) rfl
      have fX12 := HX_2.out.warm (j := 12) rfl
      have zR0 := HR_2.out.cell (j := 0) rfl
      have fR0 := HR_2.out.warm (j := 0) rfl
      have zR1 := HR_2.out.cell (j := 1) rfl
      have fR1 := HR_2.out.warm (j := 1) rfl
      have zR2 := HR_2.out.cell (j := 2) rfl
      have fR2 := HR_2.out.warm (j := 2) rfl
      have zR3 := HR_2.out.cell (j := 3) rfl
      have fR3 := HR_2.out.warm (j := 3) rfl
      have zR4 := HR_2.out.cell (j := 4) rfl
      have fR4 := HR_2.out.warm (j := 4) rfl
      have zR5 := HR_2.out.cell (j := 5) rfl
      have fR5 := HR_2.out.warm (j := 5) rfl
      have zR6 := HR_2.out.cell (j := 6) rfl
      have fR6 := HR_2.out.warm (j := 6) rfl
      have zR7 := HR_2.out.cell (j := 7) rfl
      have fR7 := HR_2.out.warm (j := 7) rfl
      have zR8 := HR_2.out.cell (j := 8) rfl
      have fR8 := HR_2.out.warm (j := 8) rfl
      have zR9 := HR_2.out.cell (j := 9) rfl
      have fR9 := HR_2.out.warm (j := 9) rfl
      have zR10 := HR_2.out.cell (j := 10) rfl
      have fR10 := HR_2.out.warm (j := 10) rfl
      have zR11 := HR_2.out.cell (j := 11) rfl
      have fR11 := HR_2.out.warm (j := 11) rfl
      have zR12 := HR_2.out.cell (j := 12) rfl
      have fR12 := HR_2.out.warm (j := 12) rfl
      obtain ⟨A_, n_, c_, x_, y_, ecs, hpi, hxy, hys, hpo, hxc⟩ := one_own HO3_2.out
      injection ecs with _ ecs
      injection ecs with ecs _
      injection ecs with ea en ec
      subst ea en ec
      have hxg : g < x_ := by
        rcases hxc with h | h
        · omega
        · have := RF3.out x_ h.2
          omega
      have hxl : (x_ = y_ ∧ x_ = W1.heap.size) ∨ (lo ≤ x_ ∧ y_ ≤ hi ∧ y_ = x_ + 1) := by
        rcases hxc with h | h
        · exact .inl h
        · have := RF3.out x_ h.2
          exact .inr ⟨by omega, by omega, h.1⟩
      have HPO := Lib.hid hpo
      have HPI := Lib.hid hpi
      have D1 := Lib.hid (show ∀ i, i ∈ F1 → i ≠ g ∧ (i < x_ ∨ y_ ≤ i) from fun i hi => by
        have h1 := RF1.out i hi
        refine ⟨by omega, ?_⟩
        rcases hxc with h | h
        · omega
        · have : i ≠ x_ := fun e => P1_3.out i hi (by rw [e]; exact h.2)
          omega)
      have D2 := Lib.hid (show ∀ i, i ∈ F2 → i ≠ g ∧ (i < x_ ∨ y_ ≤ i) from fun i hi => by
        have h1 := RF2.out i hi
        refine ⟨by omega, ?_⟩
        rcases hxc with h | h
        · omega
        · have : i ≠ x_ := fun e => P2_3.out i hi (by rw [e]; exact h.2)
          omega)
      have D4 := Lib.hid (show ∀ i, i ∈ F4 → i ≠ g ∧ (i < x_ ∨ y_ ≤ i) from fun i hi => by
        have h1 := RF4.out i hi
        refine ⟨by omega, ?_⟩
        rcases hxc with h | h
        · omega
        · have : i ≠ x_ := fun e => P4_3.out i hi (by rw [e]; exact h.2)
          omega)
      clear hpo hpi hxc
      go_wp2_with fail
      clear zX0 fX0 zX1 fX1 zX2 fX2 zX3 fX3 zX4 fX4 zX5 fX5 zX6 fX6 zX7 fX7 zX8 fX8 zX9 fX9 zX10 fX10 zX11 fX11 zX12 fX12 zR0 fR0 zR1 fR1 zR2 fR2 zR3 fR3 zR4 fR4 zR5 fR5 zR6 fR6 zR7 fR7 zR8 fR8 zR9 fR9 zR10 fR10 zR11 fR11 zR12 fR12
      refine (l11Bent_any k.left.at_ A2 n2 c2 k.left.path W1 B g x_ y_ HC1.out hxg hxy hys HPO.out (by have := HPO.out.len; omega) HPI.out).mono ?_
      rintro e W2 ⟨a', A', n', c', zs', rfl, ha', hn', hnc, hcm, hrd, hge, hkt⟩
      have HX_3 := Lib.hid (hkt.box HX_2.out (by omega) (by omega))
      have HR_3 := Lib.hid (hkt.box HR_2.out (by omega) (by omega))
      have HK_3 := Lib.hid (kt_kt HK_2.out hkt (by omega))
      have HO1_3 := Lib.hid (ow_kt HO1_2.out hkt D1.out)
      have HO2_3 := Lib.hid (ow_kt HO2_2.out hkt D2.out)
      have HO4_3 := Lib.hid (ow_kt HO4_2.out hkt D4.out)
      have hs2 : W1.heap.size ≤ W2.heap.size := hkt.size
      have HN_3 := Lib.hid (show Rd .i64 W2 W2.heap.size A' n' zs' ∧ ∀ a, A' = some a → (a.block < w.heap.size ∨ w.heap.size + 2 ≤ a.block) ∧ lo ≤ a.block from ⟨hrd, fun a e => by have := hge a e; omega⟩)
      have HA9 := Lib.hid ha'
      have HLN := Lib.hid hrd.len
      have hpl : n2 ≤ 100 := by have := HPO.out.len; omega
      clear hrd hge hkt ha'
      have zX0 := HX_3.out.cell (j := 0) rfl
      have fX0 := HX_3.out.warm (j := 0) rfl
      have zX1 := HX_3.out.cell (j := 1) rfl
      have fX1 := HX_3.out.warm (j := 1) rfl
      have zX2 := HX_3.out.cell (j := 2) rfl
      have fX2 := HX_3.out.warm (j := 2) rfl
      have zX3 := HX_3.out.cell (j := 3) rfl
      have fX3 := HX_3.out.warm (j := 3) rfl
      have zX4 := HX_3.out.cell (j := 4) rfl
      have fX4 := HX_3.out.warm (j := 4) rfl
      have zX5 := HX_3.out.cell (j := 5) rfl
      have fX5 := HX_3.out.warm (j := 5) rfl
      have zX6 := HX_3.out.cell (j := 6) rfl
      have fX6 := HX_3.out.warm (j := 6) rfl
      have zX7 := HX_3.out.cell (j := 7) rfl
      have fX7 := HX_3.out.warm (j := 7) rfl
      have zX8 := HX_3.out.cell (j := 8) rfl
      have fX8 := HX_3.out.warm (j := 8) rfl
      have zX9 := HX_3.out.cell (j := 9) rfl
      have fX9 := HX_3.out.warm (j := 9) rfl
      have zX10 := HX_3.out.cell (j := 10) rfl
      have fX10 := HX_3.out.warm (j := 10) rfl
      have zX11 := HX_3.out.cell (j := 11) rfl
      have fX11 := HX_3.out.warm (j := 11) rfl
      have zX12 := HX_3.out.cell (j := 12) rfl
      have fX12 := HX_3.out.warm (j := 12) rfl
      have zR0 := HR_3.out.cell (j := 0) rfl
      have fR0 := HR_3.out.warm (j := 0) rfl
      have zR1 := HR_3.out.cell (j := 1) rfl
      have fR1 := HR_3.out.warm (j := 1) rfl
      have zR2 := HR_3.out.cell (j := 2) rfl
      have fR2 := HR_3.out.warm (j := 2) rfl
      have zR3 := HR_3.out.cell (j := 3) rfl
      have fR3 := HR_3.out.warm (j := 3) rfl
      have zR4 := HR_3.out.cell (j := 4) rfl
      have fR4 := HR_3.out.warm (j := 4) rfl
      have zR5 := HR_3.out.cell (j := 5) rfl
      have fR5 := HR_3.out.warm (j := 5) rfl
      have zR6 := HR_3.out.cell (j := 6) rfl
      have fR6 := HR_3.out.warm (j := 6) rfl
      have zR7 := HR_3.out.cell (j := 7) rfl
      have fR7 := HR_3.out.warm (j := 7) rfl
      have zR8 := HR_3.out.cell (j := 8) rfl
      have fR8 := HR_3.out.warm (j := 8) rfl
      have zR9 := HR_3.out.cell (j := 9) rfl
      have fR9 := HR_3.out.warm (j := 9) rfl
      have zR10 := HR_3.out.cell (j := 10) rfl
      have fR10 := HR_3.out.warm (j := 10) rfl
      have zR11 := HR_3.out.cell (j := 11) rfl
      have fR11 := HR_3.out.warm (j := 11) rfl
      have zR12 := HR_3.out.cell (j := 12) rfl
      have fR12 := HR_3.out.warm (j := 12) rfl
      go_wp2
      clear zX0 fX0 zX1 fX1 zX2 fX2 zX3 fX3 zX4 fX4 zX5 fX5 zX6 fX6 zX7 fX7 zX8 fX8 zX9 fX9 zX10 fX10 zX11 fX11 zX12 fX12 zR0 fR0 zR1 fR1 zR2 fR2 zR3 fR3 zR4 fR4 zR5 fR5 zR6 fR6 zR7 fR7 zR8 fR8 zR9 fR9 zR10 fR10 zR11 fR11 zR12 fR12
      obtain ⟨VX, hVX⟩ : ∃ V, puts W2 (w.heap.size) 9 [.int .i64 a', .slice A' n' c'] = V := ⟨_, rfl⟩
      have HX_4 := Lib.hid (show Box VX (w.heap.size) [.int .i64 k.at_, .string k.before.label, .int .i64 k.before.kind, .int .i64 k.before.value, .slice A0 n0 c0, .string k.after.label, .int .i64 k.after.kind, .int .i64 k.after.value, .slice A1 n1 c1, .int .i64 a', .slice A' n' c', .int .i64 k.right.at_, .slice A3 n3 c3] from pt_self hVX HX_3.out (by simp))
      have HR_4 := Lib.hid (pt_box hVX HR_3.out (show (w.heap.size + 1) ≠ (w.heap.size) by omega))
      have HK_4 := Lib.hid (pt_kt hVX HK_3.out (show w.heap.size ≤ (w.heap.size) by omega))
      have HO1_4 := Lib.hid (pt_ow hVX HO1_3.out (fun i hi => by have := RF1.out i hi; omega))
      have HO2_4 := Lib.hid (pt_ow hVX HO2_3.out (fun i hi => by have := RF2.out i hi; omega))
      have HO4_4 := Lib.hid (pt_ow hVX HO4_3.out (fun i hi => by have := RF4.out i hi; omega))
      have HN_4 := Lib.hid (pt_rw hVX HN_3.out (by omega))
      have HVX := Lib.hid hVX
      clear hVX
      rw [show (W2.setCell ⟨w.heap.size, 9, none⟩ (.int .i64 a')).setCell ⟨w.heap.size, 10, none⟩ (.slice A' n' c') = VX from HVX.out]
      obtain ⟨VF, hVF⟩ : ∃ V, puts VX (w.heap.size + 1) 0 [.int .i64 k.at_, .string k.before.label, .int .i64 k.before.kind, .int .i64 k.before.value, .slice A0 n0 c0, .string k.after.label, .int .i64 k.after.kind, .int .i64 k.after.value, .slice A1 n1 c1, .int .i64 a', .slice A' n' c', .int .i64 k.right.at_, .slice A3 n3 c3] = V := ⟨_, rfl⟩
      have HX_5 := Lib.hid (pt_box hVF HX_4.out (show (w.heap.size) ≠ (w.heap.size + 1) by omega))
      have HR_5 := Lib.hid (show Box VF (w.heap.size + 1) [.int .i64 k.at_, .string k.before.label, .int .i64 k.before.kind, .int .i64 k.before.value, .slice A0 n0 c0, .string k.after.label, .int .i64 k.after.kind, .int .i64 k.after.value, .slice A1 n1 c1, .int .i64 a', .slice A' n' c', .int .i64 k.right.at_, .slice A3 n3 c3] from pt_self hVF HR_4.out (by simp))
      have HK_5 := Lib.hid (pt_kt hVF HK_4.out (show w.heap.size ≤ (w.heap.size + 1) by omega))
      have HO1_5 := Lib.hid (pt_ow hVF HO1_4.out (fun i hi => by have := RF1.out i hi; omega))
      have HO2_5 := Lib.hid (pt_ow hVF HO2_4.out (fun i hi => by have := RF2.out i hi; omega))
      have HO4_5 := Lib.hid (pt_ow hVF HO4_4.out (fun i hi => by have := RF4.out i hi; omega))
      have HN_5 := Lib.hid (pt_rw hVF HN_4.out (by omega))
      have HVF := Lib.hid hVF
      clear hVF
      rw [show ((((((((((((VX.setCell ⟨w.heap.size + 1, 0, none⟩ (.int .i64 k.at_)).setCell ⟨w.heap.size + 1, 1, none⟩ (.string k.before.label)).setCell ⟨w.heap.size + 1, 2, none⟩ (.int .i64 k.before.kind)).setCell ⟨w.heap.size + 1, 3, none⟩ (.int .i64 k.before.value)).setCell ⟨w.heap.size + 1, 4, none⟩ (.slice A0 n0 c0)).setCell ⟨w.heap.size + 1, 5, none⟩ (.string k.after.label)).setCell ⟨w.heap.size + 1, 6, none⟩ (.int .i64 k.after.kind)).setCell ⟨w.heap.size + 1, 7, none⟩ (.int .i64 k.after.value)).setCell ⟨w.heap.size + 1, 8, none⟩ (.slice A1 n1 c1)).setCell ⟨w.heap.size + 1, 9, none⟩ (.int .i64 a')).setCell ⟨w.heap.size + 1, 10, none⟩ (.slice A' n' c')).setCell ⟨w.heap.size + 1, 11, none⟩ (.int .i64 k.right.at_)).setCell ⟨w.heap.size + 1, 12, none⟩ (.slice A3 n3 c3) = VF from HVF.out]
      have zR0 := HR_5.out.cell (j := 0) rfl
      have zR1 := HR_5.out.cell (j := 1) rfl
      have zR2 := HR_5.out.cell (j := 2) rfl
      have zR3 := HR_5.out.cell (j := 3) rfl
      have zR4 := HR_5.out.cell (j := 4) rfl
      have zR5 := HR_5.out.cell (j := 5) rfl
      have zR6 := HR_5.out.cell (j := 6) rfl
      have zR7 := HR_5.out.cell (j := 7) rfl
      have zR8 := HR_5.out.cell (j := 8) rfl
      have zR9 := HR_5.out.cell (j := 9) rfl
      have zR10 := HR_5.out.cell (j := 10) rfl
      have zR11 := HR_5.out.cell (j := 11) rfl
      have zR12 := HR_5.out.cell (j := 12) rfl
      refine bodyPost_ret (v := .agg #[.int .i64 k.at_, .string k.before.label, .int .i64 k.before.kind, .int .i64 k.before.value, .slice A0 n0 c0, .string k.after.label, .int .i64 k.after.kind, .int .i64 k.after.value, .slice A1 n1 c1, .int .i64 a', .slice A' n' c', .int .i64 k.right.at_, .slice A3 n3 c3]) (by simp [results, Tryz.results43, go_sem, zR0, zR1, zR2, zR3, zR4, zR5, zR6, zR7, zR8, zR9, zR10, zR11, zR12]) rfl ⟨[.int .i64 k.at_, .string k.before.label, .int .i64 k.before.kind, .int .i64 k.before.value, .slice A0 n0 c0, .string k.after.label, .int .i64 k.after.kind, .int .i64 k.after.value, .slice A1 n1 c1, .int .i64 a', .slice A' n' c', .int .i64 k.right.at_, .slice A3 n3 c3], ⟨k.at_, k.before, k.after, ⟨a', zs'⟩, k.right⟩, rfl, gap_rdP (k := ⟨k.at_, k.before, k.after, ⟨a', zs'⟩, k.right⟩) HI0.out (ow_rd HO1_5.out RF1.out) (ow_rd HO2_5.out RF2.out) (rw_rd HN_5.out HA9.out hnc hcm) (ow_rd HO4_5.out RF4.out), by have := HLN.out; unfold totGap totProof; simp only; omega, HK_5.out⟩
    · have qb1 : (x == 1) = false := beq_eq_false_iff_ne.2 q1
      by_cases q2 : x = 2
      · subst q2
        have zX0 := HX_2.out.cell (j := 0) rfl
        have fX0 := HX_2.out.warm (j := 0) rfl
        have zX1 := HX_2.out.cell (j := 1) rfl
        have fX1 := HX_2.out.warm (j := 1) rfl
        have zX2 := HX_2.out.cell (j := 2) rfl
        have fX2 := HX_2.out.warm (j := 2) rfl
        have zX3 := HX_2.out.cell (j := 3) rfl
        have fX3 := HX_2.out.warm (j := 3) rfl
        have zX4 := HX_2.out.cell (j := 4) rfl
        have fX4 := HX_2.out.warm (j := 4) rfl
        have zX5 := HX_2.out.cell (j := 5) rfl
        have fX5 := HX_2.out.warm (j := 5) rfl
        have zX6 := HX_2.out.cell (j := 6) rfl
        have fX6 := HX_2.out.warm (j := 6) rfl
        have zX7 := HX_2.out.cell (j := 7) rfl
        have fX7 := HX_2.out.warm (j := 7) rfl
        have zX8 := HX_2.out.cell (j := 8) rfl
        have fX8 := HX_2.out.warm (j := 8) rfl
        have zX9 := HX_2.out.cell (j := 9) rfl
        have fX9 := HX_2.out.warm (j := 9) rfl
        have zX10 := HX_2.out.cell (j := 10) rfl
        have fX10 := HX_2.out.warm (j := 10) rfl
        have zX11 := HX_2.out.cell (j := 11) rfl
        have fX11 := HX_2.out.warm (j := 11) rfl
        have zX12 := HX_2.out.cell (j := 12) rfl
        have fX12 := HX_2.out.warm (j := 12) rfl
        have zR0 := HR_2.out.cell (j := 0) rfl
        have fR0 := HR_2.out.warm (j := 0) rfl
        have zR1 := HR_2.out.cell (j := 1) rfl
        have fR1 := HR_2.out.warm (j := 1) rfl
        have zR2 := HR_2.out.cell (j := 2) rfl
        have fR2 := HR_2.out.warm (j := 2) rfl
        have zR3 := HR_2.out.cell (j := 3) rfl
        have fR3 := HR_2.out.warm (j := 3) rfl
        have zR4 := HR_2.out.cell (j := 4) rfl
        have fR4 := HR_2.out.warm (j := 4) rfl
        have zR5 := HR_2.out.cell (j := 5) rfl
        have fR5 := HR_2.out.warm (j := 5) rfl
        have zR6 := HR_2.out.cell (j := 6) rfl
        have fR6 := HR_2.out.warm (j := 6) rfl
        have zR7 := HR_2.out.cell (j := 7) rfl
        have fR7 := HR_2.out.warm (j := 7) rfl
        have zR8 := HR_2.out.cell (j := 8) rfl
        have fR8 := HR_2.out.warm (j := 8) rfl
        have zR9 := HR_2.out.cell (j := 9) rfl
        have fR9 := HR_2.out.warm (j := 9) rfl
        have zR10 := HR_2.out.cell (j := 10) rfl
        have fR10 := HR_2.out.warm (j := 10) rfl
        have zR11 := HR_2.out.cell (j := 11) rfl
        have fR11 := HR_2.out.warm (j := 11) rfl
        have zR12 := HR_2.out.cell (j := 12) rfl
        have fR12 := HR_2.out.warm (j := 12) rfl
        obtain ⟨A_, n_, c_, x_, y_, ecs, hpi, hxy, hys, hpo, hxc⟩ := one_own HO4_2.out
        injection ecs with _ ecs
        injection ecs with ecs _
        injection ecs with ea en ec
        subst ea en ec
        have hxg : g < x_ := by
          rcases hxc with h | h
          · omega
          · have := RF4.out x_ h.2
            omega
        have hxl : (x_ = y_ ∧ x_ = W1.heap.size) ∨ (lo ≤ x_ ∧ y_ ≤ hi ∧ y_ = x_ + 1) := by
          rcases hxc with h | h
          · exact .inl h
          · have := RF4.out x_ h.2
            exact .inr ⟨by omega, by omega, h.1⟩
        have HPO := Lib.hid hpo
        have HPI := Lib.hid hpi
        have D1 := Lib.hid (show ∀ i, i ∈ F1 → i ≠ g ∧ (i < x_ ∨ y_ ≤ i) from fun i hi => by
          have h1 := RF1.out i hi
          refine ⟨by omega, ?_⟩
          rcases hxc with h | h
          · omega
          · have : i ≠ x_ := fun e => P1_4.out i hi (by rw [e]; exact h.2)
            omega)
        have D2 := Lib.hid (show ∀ i, i ∈ F2 → i ≠ g ∧ (i < x_ ∨ y_ ≤ i) from fun i hi => by
          have h1 := RF2.out i hi
          refine ⟨by omega, ?_⟩
          rcases hxc with h | h
          · omega
          · have : i ≠ x_ := fun e => P2_4.out i hi (by rw [e]; exact h.2)
            omega)
        have D3 := Lib.hid (show ∀ i, i ∈ F3 → i ≠ g ∧ (i < x_ ∨ y_ ≤ i) from fun i hi => by
          have h1 := RF3.out i hi
          refine ⟨by omega, ?_⟩
          rcases hxc with h | h
          · omega
          · have : i ≠ x_ := fun e => P3_4.out i hi (by rw [e]; exact h.2)
            omega)
        clear hpo hpi hxc
        go_wp2_with fail
        clear zX0 fX0 zX1 fX1 zX2 fX2 zX3 fX3 zX4 fX4 zX5 fX5 zX6 fX6 zX7 fX7 zX8 fX8 zX9 fX9 zX10 fX10 zX11 fX11 zX12 fX12 zR0 fR0 zR1 fR1 zR2 fR2 zR3 fR3 zR4 fR4 zR5 fR5 zR6 fR6 zR7 fR7 zR8 fR8 zR9 fR9 zR10 fR10 zR11 fR11 zR12 fR12
        refine (l11Bent_any k.right.at_ A3 n3 c3 k.right.path W1 B g x_ y_ HC1.out hxg hxy hys HPO.out (by have := HPO.out.len; omega) HPI.out).mono ?_
        rintro e W2 ⟨a', A', n', c', zs', rfl, ha', hn', hnc, hcm, hrd, hge, hkt⟩
        have HX_3 := Lib.hid (hkt.box HX_2.out (by omega) (by omega))
        have HR_3 := Lib.hid (hkt.box HR_2.out (by omega) (by omega))
        have HK_3 := Lib.hid (kt_kt HK_2.out hkt (by omega))
        have HO1_3 := Lib.hid (ow_kt HO1_2.out hkt D1.out)
        have HO2_3 := Lib.hid (ow_kt HO2_2.out hkt D2.out)
        have HO3_3 := Lib.hid (ow_kt HO3_2.out hkt D3.out)
        have hs2 : W1.heap.size ≤ W2.heap.size := hkt.size
        have HN_3 := Lib.hid (show Rd .i64 W2 W2.heap.size A' n' zs' ∧ ∀ a, A' = some a → (a.block < w.heap.size ∨ w.heap.size + 2 ≤ a.block) ∧ lo ≤ a.block from ⟨hrd, fun a e => by have := hge a e; omega⟩)
        have HA9 := Lib.hid ha'
        have HLN := Lib.hid hrd.len
        have hpl : n3 ≤ 100 := by have := HPO.out.len; omega
        clear hrd hge hkt ha'
        have zX0 := HX_3.out.cell (j := 0) rfl
        have fX0 := HX_3.out.warm (j := 0) rfl
        have zX1 := HX_3.out.cell (j := 1) rfl
        have fX1 := HX_3.out.warm (j := 1) rfl
        have zX2 := HX_3.out.cell (j := 2) rfl
        have fX2 := HX_3.out.warm (j := 2) rfl
        have zX3 := HX_3.out.cell (j := 3) rfl
        have fX3 := HX_3.out.warm (j := 3) rfl
        have zX4 := HX_3.out.cell (j := 4) rfl
        have fX4 := HX_3.out.warm (j := 4) rfl
        have zX5 := HX_3.out.cell (j := 5) rfl
        have fX5 := HX_3.out.warm (j := 5) rfl
        have zX6 := HX_3.out.cell (j := 6) rfl
        have fX6 := HX_3.out.warm (j := 6) rfl
        have zX7 := HX_3.out.cell (j := 7) rfl
        have fX7 := HX_3.out.warm (j := 7) rfl
        have zX8 := HX_3.out.cell (j := 8) rfl
        have fX8 := HX_3.out.warm (j := 8) rfl
        have zX9 := HX_3.out.cell (j := 9) rfl
        have fX9 := HX_3.out.warm (j := 9) rfl
        have zX10 := HX_3.out.cell (j := 10) rfl
        have fX10 := HX_3.out.warm (j := 10) rfl
        have zX11 := HX_3.out.cell (j := 11) rfl
        have fX11 := HX_3.out.warm (j := 11) rfl
        have zX12 := HX_3.out.cell (j := 12) rfl
        have fX12 := HX_3.out.warm (j := 12) rfl
        have zR0 := HR_3.out.cell (j := 0) rfl
        have fR0 := HR_3.out.warm (j := 0) rfl
        have zR1 := HR_3.out.cell (j := 1) rfl
        have fR1 := HR_3.out.warm (j := 1) rfl
        have zR2 := HR_3.out.cell (j := 2) rfl
        have fR2 := HR_3.out.warm (j := 2) rfl
        have zR3 := HR_3.out.cell (j := 3) rfl
        have fR3 := HR_3.out.warm (j := 3) rfl
        have zR4 := HR_3.out.cell (j := 4) rfl
        have fR4 := HR_3.out.warm (j := 4) rfl
        have zR5 := HR_3.out.cell (j := 5) rfl
        have fR5 := HR_3.out.warm (j := 5) rfl
        have zR6 := HR_3.out.cell (j := 6) rfl
        have fR6 := HR_3.out.warm (j := 6) rfl
        have zR7 := HR_3.out.cell (j := 7) rfl
        have fR7 := HR_3.out.warm (j := 7) rfl
        have zR8 := HR_3.out.cell (j := 8) rfl
        have fR8 := HR_3.out.warm (j := 8) rfl
        have zR9 := HR_3.out.cell (j := 9) rfl
        have fR9 := HR_3.out.warm (j := 9) rfl
        have zR10 := HR_3.out.cell (j := 10) rfl
        have fR10 := HR_3.out.warm (j := 10) rfl
        have zR11 := HR_3.out.cell (j := 11) rfl
        have fR11 := HR_3.out.warm (j := 11) rfl
        have zR12 := HR_3.out.cell (j := 12) rfl
        have fR12 := HR_3.out.warm (j := 12) rfl
        go_wp2
        clear zX0 fX0 zX1 fX1 zX2 fX2 zX3 fX3 zX4 fX4 zX5 fX5 zX6 fX6 zX7 fX7 zX8 fX8 zX9 fX9 zX10 fX10 zX11 fX11 zX12 fX12 zR0 fR0 zR1 fR1 zR2 fR2 zR3 fR3 zR4 fR4 zR5 fR5 zR6 fR6 zR7 fR7 zR8 fR8 zR9 fR9 zR10 fR10 zR11 fR11 zR12 fR12
        obtain ⟨VX, hVX⟩ : ∃ V, puts W2 (w.heap.size) 11 [.int .i64 a', .slice A' n' c'] = V := ⟨_, rfl⟩
        have HX_4 := Lib.hid (show Box VX (w.heap.size) [.int .i64 k.at_, .string k.before.label, .int .i64 k.before.kind, .int .i64 k.before.value, .slice A0 n0 c0, .string k.after.label, .int .i64 k.after.kind, .int .i64 k.after.value, .slice A1 n1 c1, .int .i64 k.left.at_, .slice A2 n2 c2, .int .i64 a', .slice A' n' c'] from pt_self hVX HX_3.out (by simp))
        have HR_4 := Lib.hid (pt_box hVX HR_3.out (show (w.heap.size + 1) ≠ (w.heap.size) by omega))
        have HK_4 := Lib.hid (pt_kt hVX HK_3.out (show w.heap.size ≤ (w.heap.size) by omega))
        have HO1_4 := Lib.hid (pt_ow hVX HO1_3.out (fun i hi => by have := RF1.out i hi; omega))
        have HO2_4 := Lib.hid (pt_ow hVX HO2_3.out (fun i hi => by have := RF2.out i hi; omega))
        have HO3_4 := Lib.hid (pt_ow hVX HO3_3.out (fun i hi => by have := RF3.out i hi; omega))
        have HN_4 := Lib.hid (pt_rw hVX HN_3.out (by omega))
        have HVX := Lib.hid hVX
        clear hVX
        rw [show (W2.setCell ⟨w.heap.size, 11, none⟩ (.int .i64 a')).setCell ⟨w.heap.size, 12, none⟩ (.slice A' n' c') = VX from HVX.out]
        obtain ⟨VF, hVF⟩ : ∃ V, puts VX (w.heap.size + 1) 0 [.int .i64 k.at_, .string k.before.label, .int .i64 k.before.kind, .int .i64 k.before.value, .slice A0 n0 c0, .string k.after.label, .int .i64 k.after.kind, .int .i64 k.after.value, .slice A1 n1 c1, .int .i64 k.left.at_, .slice A2 n2 c2, .int .i64 a', .slice A' n' c'] = V := ⟨_, rfl⟩
        have HX_5 := Lib.hid (pt_box hVF HX_4.out (show (w.heap.size) ≠ (w.heap.size + 1) by omega))
        have HR_5 := Lib.hid (show Box VF (w.heap.size + 1) [.int .i64 k.at_, .string k.before.label, .int .i64 k.before.kind, .int .i64 k.before.value, .slice A0 n0 c0, .string k.after.label, .int .i64 k.after.kind, .int .i64 k.after.value, .slice A1 n1 c1, .int .i64 k.left.at_, .slice A2 n2 c2, .int .i64 a', .slice A' n' c'] from pt_self hVF HR_4.out (by simp))
        have HK_5 := Lib.hid (pt_kt hVF HK_4.out (show w.heap.size ≤ (w.heap.size + 1) by omega))
        have HO1_5 := Lib.hid (pt_ow hVF HO1_4.out (fun i hi => by have := RF1.out i hi; omega))
        have HO2_5 := Lib.hid (pt_ow hVF HO2_4.out (fun i hi => by have := RF2.out i hi; omega))
        have HO3_5 := Lib.hid (pt_ow hVF HO3_4.out (fun i hi => by have := RF3.out i hi; omega))
        have HN_5 := Lib.hid (pt_rw hVF HN_4.out (by omega))
        have HVF := Lib.hid hVF
        clear hVF
        rw [show ((((((((((((VX.setCell ⟨w.heap.size + 1, 0, none⟩ (.int .i64 k.at_)).setCell ⟨w.heap.size + 1, 1, none⟩ (.string k.before.label)).setCell ⟨w.heap.size + 1, 2, none⟩ (.int .i64 k.before.kind)).setCell ⟨w.heap.size + 1, 3, none⟩ (.int .i64 k.before.value)).setCell ⟨w.heap.size + 1, 4, none⟩ (.slice A0 n0 c0)).setCell ⟨w.heap.size + 1, 5, none⟩ (.string k.after.label)).setCell ⟨w.heap.size + 1, 6, none⟩ (.int .i64 k.after.kind)).setCell ⟨w.heap.size + 1, 7, none⟩ (.int .i64 k.after.value)).setCell ⟨w.heap.size + 1, 8, none⟩ (.slice A1 n1 c1)).setCell ⟨w.heap.size + 1, 9, none⟩ (.int .i64 k.left.at_)).setCell ⟨w.heap.size + 1, 10, none⟩ (.slice A2 n2 c2)).setCell ⟨w.heap.size + 1, 11, none⟩ (.int .i64 a')).setCell ⟨w.heap.size + 1, 12, none⟩ (.slice A' n' c') = VF from HVF.out]
        have zR0 := HR_5.out.cell (j := 0) rfl
        have zR1 := HR_5.out.cell (j := 1) rfl
        have zR2 := HR_5.out.cell (j := 2) rfl
        have zR3 := HR_5.out.cell (j := 3) rfl
        have zR4 := HR_5.out.cell (j := 4) rfl
        have zR5 := HR_5.out.cell (j := 5) rfl
        have zR6 := HR_5.out.cell (j := 6) rfl
        have zR7 := HR_5.out.cell (j := 7) rfl
        have zR8 := HR_5.out.cell (j := 8) rfl
        have zR9 := HR_5.out.cell (j := 9) rfl
        have zR10 := HR_5.out.cell (j := 10) rfl
        have zR11 := HR_5.out.cell (j := 11) rfl
        have zR12 := HR_5.out.cell (j := 12) rfl
        refine bodyPost_ret (v := .agg #[.int .i64 k.at_, .string k.before.label, .int .i64 k.before.kind, .int .i64 k.before.value, .slice A0 n0 c0, .string k.after.label, .int .i64 k.after.kind, .int .i64 k.after.value, .slice A1 n1 c1, .int .i64 k.left.at_, .slice A2 n2 c2, .int .i64 a', .slice A' n' c']) (by simp [results, Tryz.results43, go_sem, zR0, zR1, zR2, zR3, zR4, zR5, zR6, zR7, zR8, zR9, zR10, zR11, zR12]) rfl ⟨[.int .i64 k.at_, .string k.before.label, .int .i64 k.before.kind, .int .i64 k.before.value, .slice A0 n0 c0, .string k.after.label, .int .i64 k.after.kind, .int .i64 k.after.value, .slice A1 n1 c1, .int .i64 k.left.at_, .slice A2 n2 c2, .int .i64 a', .slice A' n' c'], ⟨k.at_, k.before, k.after, k.left, ⟨a', zs'⟩⟩, rfl, gap_rdP (k := ⟨k.at_, k.before, k.after, k.left, ⟨a', zs'⟩⟩) HI0.out (ow_rd HO1_5.out RF1.out) (ow_rd HO2_5.out RF2.out) (ow_rd HO3_5.out RF3.out) (rw_rd HN_5.out HA9.out hnc hcm), by have := HLN.out; unfold totGap totProof; simp only; omega, HK_5.out⟩
      · have qb2 : (x == 2) = false := beq_eq_false_iff_ne.2 q2
        by_cases q3 : x = 3
        · subst q3
          have zX0 := HX_2.out.cell (j := 0) rfl
          have fX0 := HX_2.out.warm (j := 0) rfl
          have zX1 := HX_2.out.cell (j := 1) rfl
          have fX1 := HX_2.out.warm (j := 1) rfl
          have zX2 := HX_2.out.cell (j := 2) rfl
          have fX2 := HX_2.out.warm (j := 2) rfl
          have zX3 := HX_2.out.cell (j := 3) rfl
          have fX3 := HX_2.out.warm (j := 3) rfl
          have zX4 := HX_2.out.cell (j := 4) rfl
          have fX4 := HX_2.out.warm (j := 4) rfl
          have zX5 := HX_2.out.cell (j := 5) rfl
          have fX5 := HX_2.out.warm (j := 5) rfl
          have zX6 := HX_2.out.cell (j := 6) rfl
          have fX6 := HX_2.out.warm (j := 6) rfl
          have zX7 := HX_2.out.cell (j := 7) rfl
          have fX7 := HX_2.out.warm (j := 7) rfl
          have zX8 := HX_2.out.cell (j := 8) rfl
          have fX8 := HX_2.out.warm (j := 8) rfl
          have zX9 := HX_2.out.cell (j := 9) rfl
          have fX9 := HX_2.out.warm (j := 9) rfl
          have zX10 := HX_2.out.cell (j := 10) rfl
          have fX10 := HX_2.out.warm (j := 10) rfl
          have zX11 := HX_2.out.cell (j := 11) rfl
          have fX11 := HX_2.out.warm (j := 11) rfl
          have zX12 := HX_2.out.cell (j := 12) rfl
          have fX12 := HX_2.out.warm (j := 12) rfl
          have zR0 := HR_2.out.cell (j := 0) rfl
          have fR0 := HR_2.out.warm (j := 0) rfl
          have zR1 := HR_2.out.cell (j := 1) rfl
          have fR1 := HR_2.out.warm (j := 1) rfl
          have zR2 := HR_2.out.cell (j := 2) rfl
          have fR2 := HR_2.out.warm (j := 2) rfl
          have zR3 := HR_2.out.cell (j := 3) rfl
          have fR3 := HR_2.out.warm (j := 3) rfl
          have zR4 := HR_2.out.cell (j := 4) rfl
          have fR4 := HR_2.out.warm (j := 4) rfl
          have zR5 := HR_2.out.cell (j := 5) rfl
          have fR5 := HR_2.out.warm (j := 5) rfl
          have zR6 := HR_2.out.cell (j := 6) rfl
          have fR6 := HR_2.out.warm (j := 6) rfl
          have zR7 := HR_2.out.cell (j := 7) rfl
          have fR7 := HR_2.out.warm (j := 7) rfl
          have zR8 := HR_2.out.cell (j := 8) rfl
          have fR8 := HR_2.out.warm (j := 8) rfl
          have zR9 := HR_2.out.cell (j := 9) rfl
          have fR9 := HR_2.out.warm (j := 9) rfl
          have zR10 := HR_2.out.cell (j := 10) rfl
          have fR10 := HR_2.out.warm (j := 10) rfl
          have zR11 := HR_2.out.cell (j := 11) rfl
          have fR11 := HR_2.out.warm (j := 11) rfl
          have zR12 := HR_2.out.cell (j := 12) rfl
          have fR12 := HR_2.out.warm (j := 12) rfl
          go_wp2
          clear zX0 fX0 zX1 fX1 zX2 fX2 zX3 fX3 zX4 fX4 zX5 fX5 zX6 fX6 zX7 fX7 zX8 fX8 zX9 fX9 zX10 fX10 zX11 fX11 zX12 fX12 zR0 fR0 zR1 fR1 zR2 fR2 zR3 fR3 zR4 fR4 zR5 fR5 zR6 fR6 zR7 fR7 zR8 fR8 zR9 fR9 zR10 fR10 zR11 fR11 zR12 fR12
          have htot : totGap ⟨k.at_, zeroE, k.after, zeroP, k.right⟩ ≤ 100000 := by
            have h1 : totEntry zeroE = 0 := by decide
            unfold totGap totProof
            simp only [h1]
            unfold zeroP
            simp
            omega
          obtain ⟨VX, hVX⟩ : ∃ V, puts W1 (w.heap.size) 1 [.string ⟨#[]⟩, .int .i64 0, .int .i64 0, .slice none 0 0] = V := ⟨_, rfl⟩
          have HX_3 := Lib.hid (show Box VX (w.heap.size) [.int .i64 k.at_, .string ⟨#[]⟩, .int .i64 0, .int .i64 0, .slice none 0 0, .string k.after.label, .int .i64 k.after.kind, .int .i64 k.after.value, .slice A1 n1 c1, .int .i64 k.left.at_, .slice A2 n2 c2, .int .i64 k.right.at_, .slice A3 n3 c3] from pt_self hVX HX_2.out (by simp))
          have HR_3 := Lib.hid (pt_box hVX HR_2.out (show (w.heap.size + 1) ≠ (w.heap.size) by omega))
          have HK_3 := Lib.hid (pt_kt hVX HK_2.out (show w.heap.size ≤ (w.heap.size) by omega))
          have HO1_3 := Lib.hid (pt_ow hVX HO1_2.out (fun i hi => by have := RF1.out i hi; omega))
          have HO2_3 := Lib.hid (pt_ow hVX HO2_2.out (fun i hi => by have := RF2.out i hi; omega))
          have HO3_3 := Lib.hid (pt_ow hVX HO3_2.out (fun i hi => by have := RF3.out i hi; omega))
          have HO4_3 := Lib.hid (pt_ow hVX HO4_2.out (fun i hi => by have := RF4.out i hi; omega))
          have HVX := Lib.hid hVX
          clear hVX
          obtain ⟨VY, hVY⟩ : ∃ V, puts VX (w.heap.size) 9 [.int .i64 0, .slice none 0 0] = V := ⟨_, rfl⟩
          have HX_4 := Lib.hid (show Box VY (w.heap.size) [.int .i64 k.at_, .string ⟨#[]⟩, .int .i64 0, .int .i64 0, .slice none 0 0, .string k.after.label, .int .i64 k.after.kind, .int .i64 k.after.value, .slice A1 n1 c1, .int .i64 0, .slice none 0 0, .int .i64 k.right.at_, .slice A3 n3 c3] from pt_self hVY HX_3.out (by simp))
          have HR_4 := Lib.hid (pt_box hVY HR_3.out (show (w.heap.size + 1) ≠ (w.heap.size) by omega))
          have HK_4 := Lib.hid (pt_kt hVY HK_3.out (show w.heap.size ≤ (w.heap.size) by omega))
          have HO1_4 := Lib.hid (pt_ow hVY HO1_3.out (fun i hi => by have := RF1.out i hi; omega))
          have HO2_4 := Lib.hid (pt_ow hVY HO2_3.out (fun i hi => by have := RF2.out i hi; omega))
          have HO3_4 := Lib.hid (pt_ow hVY HO3_3.out (fun i hi => by have := RF3.out i hi; omega))
          have HO4_4 := Lib.hid (pt_ow hVY HO4_3.out (fun i hi => by have := RF4.out i hi; omega))
          have HVY := Lib.hid hVY
          clear hVY
          rw [show (((W1.setCell ⟨w.heap.size, 1, none⟩ (.string ⟨#[]⟩)).setCell ⟨w.heap.size, 2, none⟩ (.int .i64 0)).setCell ⟨w.heap.size, 3, none⟩ (.int .i64 0)).setCell ⟨w.heap.size, 4, none⟩ (.slice none 0 0) = VX from HVX.out, show (VX.setCell ⟨w.heap.size, 9, none⟩ (.int .i64 0)).setCell ⟨w.heap.size, 10, none⟩ (.slice none 0 0) = VY from HVY.out]
          obtain ⟨VF, hVF⟩ : ∃ V, puts VY (w.heap.size + 1) 0 [.int .i64 k.at_, .string ⟨#[]⟩, .int .i64 0, .int .i64 0, .slice none 0 0, .string k.after.label, .int .i64 k.after.kind, .int .i64 k.after.value, .slice A1 n1 c1, .int .i64 0, .slice none 0 0, .int .i64 k.right.at_, .slice A3 n3 c3] = V := ⟨_, rfl⟩
          have HX_5 := Lib.hid (pt_box hVF HX_4.out (show (w.heap.size) ≠ (w.heap.size + 1) by omega))
          have HR_5 := Lib.hid (show Box VF (w.heap.size + 1) [.int .i64 k.at_, .string ⟨#[]⟩, .int .i64 0, .int .i64 0, .slice none 0 0, .string k.after.label, .int .i64 k.after.kind, .int .i64 k.after.value, .slice A1 n1 c1, .int .i64 0, .slice none 0 0, .int .i64 k.right.at_, .slice A3 n3 c3] from pt_self hVF HR_4.out (by simp))
          have HK_5 := Lib.hid (pt_kt hVF HK_4.out (show w.heap.size ≤ (w.heap.size + 1) by omega))
          have HO1_5 := Lib.hid (pt_ow hVF HO1_4.out (fun i hi => by have := RF1.out i hi; omega))
          have HO2_5 := Lib.hid (pt_ow hVF HO2_4.out (fun i hi => by have := RF2.out i hi; omega))
          have HO3_5 := Lib.hid (pt_ow hVF HO3_4.out (fun i hi => by have := RF3.out i hi; omega))
          have HO4_5 := Lib.hid (pt_ow hVF HO4_4.out (fun i hi => by have := RF4.out i hi; omega))
          have HVF := Lib.hid hVF
          clear hVF
          rw [show ((((((((((((VY.setCell ⟨w.heap.size + 1, 0, none⟩ (.int .i64 k.at_)).setCell ⟨w.heap.size + 1, 1, none⟩ (.string ⟨#[]⟩)).setCell ⟨w.heap.size + 1, 2, none⟩ (.int .i64 0)).setCell ⟨w.heap.size + 1, 3, none⟩ (.int .i64 0)).setCell ⟨w.heap.size + 1, 4, none⟩ (.slice none 0 0)).setCell ⟨w.heap.size + 1, 5, none⟩ (.string k.after.label)).setCell ⟨w.heap.size + 1, 6, none⟩ (.int .i64 k.after.kind)).setCell ⟨w.heap.size + 1, 7, none⟩ (.int .i64 k.after.value)).setCell ⟨w.heap.size + 1, 8, none⟩ (.slice A1 n1 c1)).setCell ⟨w.heap.size + 1, 9, none⟩ (.int .i64 0)).setCell ⟨w.heap.size + 1, 10, none⟩ (.slice none 0 0)).setCell ⟨w.heap.size + 1, 11, none⟩ (.int .i64 k.right.at_)).setCell ⟨w.heap.size + 1, 12, none⟩ (.slice A3 n3 c3) = VF from HVF.out]
          have zR0 := HR_5.out.cell (j := 0) rfl
          have zR1 := HR_5.out.cell (j := 1) rfl
          have zR2 := HR_5.out.cell (j := 2) rfl
          have zR3 := HR_5.out.cell (j := 3) rfl
          have zR4 := HR_5.out.cell (j := 4) rfl
          have zR5 := HR_5.out.cell (j := 5) rfl
          have zR6 := HR_5.out.cell (j := 6) rfl
          have zR7 := HR_5.out.cell (j := 7) rfl
          have zR8 := HR_5.out.cell (j := 8) rfl
          have zR9 := HR_5.out.cell (j := 9) rfl
          have zR10 := HR_5.out.cell (j := 10) rfl
          have zR11 := HR_5.out.cell (j := 11) rfl
          have zR12 := HR_5.out.cell (j := 12) rfl
          refine bodyPost_ret (v := .agg #[.int .i64 k.at_, .string ⟨#[]⟩, .int .i64 0, .int .i64 0, .slice none 0 0, .string k.after.label, .int .i64 k.after.kind, .int .i64 k.after.value, .slice A1 n1 c1, .int .i64 0, .slice none 0 0, .int .i64 k.right.at_, .slice A3 n3 c3]) (by simp [results, Tryz.results43, go_sem, zR0, zR1, zR2, zR3, zR4, zR5, zR6, zR7, zR8, zR9, zR10, zR11, zR12]) rfl ⟨[.int .i64 k.at_, .string ⟨#[]⟩, .int .i64 0, .int .i64 0, .slice none 0 0, .string k.after.label, .int .i64 k.after.kind, .int .i64 k.after.value, .slice A1 n1 c1, .int .i64 0, .slice none 0 0, .int .i64 k.right.at_, .slice A3 n3 c3], ⟨k.at_, zeroE, k.after, zeroP, k.right⟩, rfl, gap_rdP (k := ⟨k.at_, zeroE, k.after, zeroP, k.right⟩) HI0.out (zE_rd VF _) (ow_rd HO2_5.out RF2.out) (zP_rd VF _) (ow_rd HO4_5.out RF4.out), htot, HK_5.out⟩
        · have qb3 : (x == 3) = false := beq_eq_false_iff_ne.2 q3
          have zX0 := HX_2.out.cell (j := 0) rfl
          have fX0 := HX_2.out.warm (j := 0) rfl
          have zX1 := HX_2.out.cell (j := 1) rfl
          have fX1 := HX_2.out.warm (j := 1) rfl
          have zX2 := HX_2.out.cell (j := 2) rfl
          have fX2 := HX_2.out.warm (j := 2) rfl
          have zX3 := HX_2.out.cell (j := 3) rfl
          have fX3 := HX_2.out.warm (j := 3) rfl
          have zX4 := HX_2.out.cell (j := 4) rfl
          have fX4 := HX_2.out.warm (j := 4) rfl
          have zX5 := HX_2.out.cell (j := 5) rfl
          have fX5 := HX_2.out.warm (j := 5) rfl
          have zX6 := HX_2.out.cell (j := 6) rfl
          have fX6 := HX_2.out.warm (j := 6) rfl
          have zX7 := HX_2.out.cell (j := 7) rfl
          have fX7 := HX_2.out.warm (j := 7) rfl
          have zX8 := HX_2.out.cell (j := 8) rfl
          have fX8 := HX_2.out.warm (j := 8) rfl
          have zX9 := HX_2.out.cell (j := 9) rfl
          have fX9 := HX_2.out.warm (j := 9) rfl
          have zX10 := HX_2.out.cell (j := 10) rfl
          have fX10 := HX_2.out.warm (j := 10) rfl
          have zX11 := HX_2.out.cell (j := 11) rfl
          have fX11 := HX_2.out.warm (j := 11) rfl
          have zX12 := HX_2.out.cell (j := 12) rfl
          have fX12 := HX_2.out.warm (j := 12) rfl
          have zR0 := HR_2.out.cell (j := 0) rfl
          have fR0 := HR_2.out.warm (j := 0) rfl
          have zR1 := HR_2.out.cell (j := 1) rfl
          have fR1 := HR_2.out.warm (j := 1) rfl
          have zR2 := HR_2.out.cell (j := 2) rfl
          have fR2 := HR_2.out.warm (j := 2) rfl
          have zR3 := HR_2.out.cell (j := 3) rfl
          have fR3 := HR_2.out.warm (j := 3) rfl
          have zR4 := HR_2.out.cell (j := 4) rfl
          have fR4 := HR_2.out.warm (j := 4) rfl
          have zR5 := HR_2.out.cell (j := 5) rfl
          have fR5 := HR_2.out.warm (j := 5) rfl
          have zR6 := HR_2.out.cell (j := 6) rfl
          have fR6 := HR_2.out.warm (j := 6) rfl
          have zR7 := HR_2.out.cell (j := 7) rfl
          have fR7 := HR_2.out.warm (j := 7) rfl
          have zR8 := HR_2.out.cell (j := 8) rfl
          have fR8 := HR_2.out.warm (j := 8) rfl
          have zR9 := HR_2.out.cell (j := 9) rfl
          have fR9 := HR_2.out.warm (j := 9) rfl
          have zR10 := HR_2.out.cell (j := 10) rfl
          have fR10 := HR_2.out.warm (j := 10) rfl
          have zR11 := HR_2.out.cell (j := 11) rfl
          have fR11 := HR_2.out.warm (j := 11) rfl
          have zR12 := HR_2.out.cell (j := 12) rfl
          have fR12 := HR_2.out.warm (j := 12) rfl
          go_wp2
          clear zX0 fX0 zX1 fX1 zX2 fX2 zX3 fX3 zX4 fX4 zX5 fX5 zX6 fX6 zX7 fX7 zX8 fX8 zX9 fX9 zX10 fX10 zX11 fX11 zX12 fX12 zR0 fR0 zR1 fR1 zR2 fR2 zR3 fR3 zR4 fR4 zR5 fR5 zR6 fR6 zR7 fR7 zR8 fR8 zR9 fR9 zR10 fR10 zR11 fR11 zR12 fR12
          obtain ⟨VF, hVF⟩ : ∃ V, puts W1 (w.heap.size + 1) 0 [.int .i64 k.at_, .string k.before.label, .int .i64 k.before.kind, .int .i64 k.before.value, .slice A0 n0 c0, .string k.after.label, .int .i64 k.after.kind, .int .i64 k.after.value, .slice A1 n1 c1, .int .i64 k.left.at_, .slice A2 n2 c2, .int .i64 k.right.at_, .slice A3 n3 c3] = V := ⟨_, rfl⟩
          have HX_3 := Lib.hid (pt_box hVF HX_2.out (show (w.heap.size) ≠ (w.heap.size + 1) by omega))
          have HR_3 := Lib.hid (show Box VF (w.heap.size + 1) [.int .i64 k.at_, .string k.before.label, .int .i64 k.before.kind, .int .i64 k.before.value, .slice A0 n0 c0, .string k.after.label, .int .i64 k.after.kind, .int .i64 k.after.value, .slice A1 n1 c1, .int .i64 k.left.at_, .slice A2 n2 c2, .int .i64 k.right.at_, .slice A3 n3 c3] from pt_self hVF HR_2.out (by simp))
          have HK_3 := Lib.hid (pt_kt hVF HK_2.out (show w.heap.size ≤ (w.heap.size + 1) by omega))
          have HO1_3 := Lib.hid (pt_ow hVF HO1_2.out (fun i hi => by have := RF1.out i hi; omega))
          have HO2_3 := Lib.hid (pt_ow hVF HO2_2.out (fun i hi => by have := RF2.out i hi; omega))
          have HO3_3 := Lib.hid (pt_ow hVF HO3_2.out (fun i hi => by have := RF3.out i hi; omega))
          have HO4_3 := Lib.hid (pt_ow hVF HO4_2.out (fun i hi => by have := RF4.out i hi; omega))
          have HVF := Lib.hid hVF
          clear hVF
          rw [show ((((((((((((W1.setCell ⟨w.heap.size + 1, 0, none⟩ (.int .i64 k.at_)).setCell ⟨w.heap.size + 1, 1, none⟩ (.string k.before.label)).setCell ⟨w.heap.size + 1, 2, none⟩ (.int .i64 k.before.kind)).setCell ⟨w.heap.size + 1, 3, none⟩ (.int .i64 k.before.value)).setCell ⟨w.heap.size + 1, 4, none⟩ (.slice A0 n0 c0)).setCell ⟨w.heap.size + 1, 5, none⟩ (.string k.after.label)).setCell ⟨w.heap.size + 1, 6, none⟩ (.int .i64 k.after.kind)).setCell ⟨w.heap.size + 1, 7, none⟩ (.int .i64 k.after.value)).setCell ⟨w.heap.size + 1, 8, none⟩ (.slice A1 n1 c1)).setCell ⟨w.heap.size + 1, 9, none⟩ (.int .i64 k.left.at_)).setCell ⟨w.heap.size + 1, 10, none⟩ (.slice A2 n2 c2)).setCell ⟨w.heap.size + 1, 11, none⟩ (.int .i64 k.right.at_)).setCell ⟨w.heap.size + 1, 12, none⟩ (.slice A3 n3 c3) = VF from HVF.out]
          have zR0 := HR_3.out.cell (j := 0) rfl
          have zR1 := HR_3.out.cell (j := 1) rfl
          have zR2 := HR_3.out.cell (j := 2) rfl
          have zR3 := HR_3.out.cell (j := 3) rfl
          have zR4 := HR_3.out.cell (j := 4) rfl
          have zR5 := HR_3.out.cell (j := 5) rfl
          have zR6 := HR_3.out.cell (j := 6) rfl
          have zR7 := HR_3.out.cell (j := 7) rfl
          have zR8 := HR_3.out.cell (j := 8) rfl
          have zR9 := HR_3.out.cell (j := 9) rfl
          have zR10 := HR_3.out.cell (j := 10) rfl
          have zR11 := HR_3.out.cell (j := 11) rfl
          have zR12 := HR_3.out.cell (j := 12) rfl
          refine bodyPost_ret (v := .agg #[.int .i64 k.at_, .string k.before.label, .int .i64 k.before.kind, .int .i64 k.before.value, .slice A0 n0 c0, .string k.after.label, .int .i64 k.after.kind, .int .i64 k.after.value, .slice A1 n1 c1, .int .i64 k.left.at_, .slice A2 n2 c2, .int .i64 k.right.at_, .slice A3 n3 c3]) (by simp [results, Tryz.results43, go_sem, zR0, zR1, zR2, zR3, zR4, zR5, zR6, zR7, zR8, zR9, zR10, zR11, zR12]) rfl ⟨[.int .i64 k.at_, .string k.before.label, .int .i64 k.before.kind, .int .i64 k.before.value, .slice A0 n0 c0, .string k.after.label, .int .i64 k.after.kind, .int .i64 k.after.value, .slice A1 n1 c1, .int .i64 k.left.at_, .slice A2 n2 c2, .int .i64 k.right.at_, .slice A3 n3 c3], k, rfl, gap_rdP (k := k) HI0.out (ow_rd HO1_3.out RF1.out) (ow_rd HO2_3.out RF2.out) (ow_rd HO3_3.out RF3.out) (ow_rd HO4_3.out RF4.out), by unfold totGap totProof; (try simp only); omega, HK_3.out⟩
theorem ownG_rd {w : World} {lo hi : Nat} {cs : List Value} {k : Gap} (h : OwnI RGap w lo hi cs k) : RGap.rd w (fun i => lo ≤ i ∧ i < w.heap.size) cs k := by
  obtain ⟨F, h1, _, h3⟩ := h
  exact RGap.more (RGap.ord h1) fun i hi => ⟨(h3 i hi).1, RGap.olt h1 i hi⟩
theorem gap_small {l : List Entry} {s : ByteArray} {m : Nat} (h : totR totEntry l ≤ m) : totEntry (proveA l s).1.before ≤ m ∧ totEntry (proveA l s).1.after ≤ m ∧ (proveA l s).1.left.path.length ≤ l.length ∧ (proveA l s).1.right.path.length ≤ l.length := by
  have hr := rank_le l s
  have hz : totEntry zeroE = 0 := by decide
  have hp : ∀ t, (proveE l t).1.path.length ≤ l.length := fun t => by
    have h2 := pathFor_len (leavesE l) (M09.fndE l t)
    rw [leavesE_len] at h2
    unfold proveE
    split
    · simp
    · exact h2
  unfold proveA
  split
  · simp only
    unfold gapAt befE aftE lefP rigP
    simp only
    refine ⟨?_, ?_, ?_, ?_⟩
    · split
      · exact Nat.le_trans (totR_mem totEntry (by omega)) h
      · omega
    · split
      · exact Nat.le_trans (totR_mem totEntry (by omega)) h
      · omega
    · split
      · exact hp _
      · exact Nat.zero_le _
    · split
      · exact hp _
      · exact Nat.zero_le _
  · unfold zeroG
    simp only
    exact ⟨by omega, by omega, Nat.zero_le _, Nat.zero_le _⟩
def DrCG (w : World) (e : Ending) (w' : World) : Prop :=
  ∃ r m s cs k, e = .returned (.tuple #[.int .i64 r, .int .i64 m, .string s, .agg (List.toArray cs)]) ∧ (0 ≤ r ∧ r ≤ 2147483648) ∧ (0 ≤ m ∧ m ≤ 19) ∧ ByteArray.size s ≤ 16 ∧ RGap.rd w' (Lt w'.heap.size) cs k ∧ totGap k ≤ 1048576 ∧ Below w.heap.size w w'
theorem gap_lt {w V : World} {lo b j : Nat} {vals : List Value} {cs : List Value} {k : Gap} (e : puts w b j vals = V) (h : RGap.rd w (fun i => lo ≤ i ∧ i < w.heap.size) cs k) (hb : b < lo) : RGap.rd V (Lt V.heap.size) cs k := by
  rw [← e]
  exact RGap.more (RGap.keep h fun i hi => puts_keep (by omega) vals j) fun i hi => by rw [puts_size]; exact hi.2
set_option maxHeartbeats 16000000 in
theorem drawCheckAbsence_any (w : World) (A : Option Addr) (n c : Nat) (hn : n ≤ maxLen) (hr : BRow w w.heap.size A n) :
    Calls Tryz.prog 12 #[.slice A n c] w (DrCG w) := by
  obtain ⟨V, hV⟩ : ∃ V, V = w.alloc (.cells #[.int .i64 0, .string ⟨#[]⟩, .int .i64 0, .int .i64 0, .slice none 0 0, .string ⟨#[]⟩, .int .i64 0, .int .i64 0, .slice none 0 0, .int .i64 0, .slice none 0 0, .int .i64 0, .slice none 0 0] 34) := ⟨_, rfl⟩
  have HB_1 := Lib.hid (show Below w.heap.size w V from by rw [hV]; exact (Below.refl _ _).alloc (Nat.le_refl _) _)
  have HRR := Lib.hid ((hr.below HB_1.out).more HB_1.out.size)
  have hVs : V.heap.size = w.heap.size + 1 := by rw [hV]; simp
  have HR_1 := Lib.hid (show Box V w.heap.size [.int .i64 0, .string ⟨#[]⟩, .int .i64 0, .int .i64 0, .slice none 0 0, .string ⟨#[]⟩, .int .i64 0, .int .i64 0, .slice none 0 0, .int .i64 0, .slice none 0 0, .int .i64 0, .slice none 0 0] by rw [hV]; exact Box.new w #[.int .i64 0, .string ⟨#[]⟩, .int .i64 0, .int .i64 0, .slice none 0 0, .string ⟨#[]⟩, .int .i64 0, .int .i64 0, .slice none 0 0, .int .i64 0, .slice none 0 0, .int .i64 0, .slice none 0 0] 34)
  have HV := Lib.hid hV
  clear hr hV
  go_enter Tryz.func12, Tryz.ntmps12
  go_wp2_with fail
  rw [show w.alloc (.cells #[.int .i64 0, .string ⟨#[]⟩, .int .i64 0, .int .i64 0, .slice none 0 0, .string ⟨#[]⟩, .int .i64 0, .int .i64 0, .slice none 0 0, .int .i64 0, .slice none 0 0, .int .i64 0, .slice none 0 0] 34) = V from HV.out.symm]
  refine (l1New_any _ A n c hn HRR.out).mono ?_
  rintro e W1 ⟨g, rfl, hc1, hb1⟩
  have hgB := hc1.1
  have hgl := hc1.lt
  have HB_2 := Lib.hid (HB_1.out.trans (hb1.mono HB_1.out.size))
  have HR_2 := Lib.hid (HR_1.out.below hb1 HR_1.out.lt)
  have hsW1 := hb1.size
  have HC_2 := Lib.hid hc1
  clear hc1 hb1
  go_wp2_with fail
  refine (l9List_any _ _ g HC_2.out).mono ?_
  rintro e W2 ⟨Al, nl, cl, l, rfl, hsl, hown, hc2, hk2⟩
  have HB_3 := Lib.hid (HB_2.out.trans (hk2.below (by omega) HB_2.out.size))
  have HR_3 := Lib.hid (bxK HR_2.out hk2 (by omega))
  have HC_3 := Lib.hid (hc2)
  have hsW2 := hk2.size
  have HL_3 := Lib.hid hown
  have HLEN := Lib.hid hown.len
  have hnl : nl ≤ 6 := by have := hown.len; have := hsl.1; omega
  have hro := rootOf_in l
  have htr : totR totEntry l ≤ 1206 := by have := smL_fine hsl; omega
  have HRT := Lib.hid (fun w9 (h : FRdEntry w9 w9.heap.size Al nl l) => sRootOf_any Al nl cl l w9 h (by omega))
  generalize rootOf l = r at HRT hro
  clear hsl hown hc2 hk2
  go_wp2_with fail
  refine (l4Any_any _ _ g HC_3.out).mono ?_
  rintro e W3 ⟨v, ⟨s, hs, rfl⟩, rfl, hc3, hk3⟩
  have HB_4 := Lib.hid (HB_3.out.trans (hk3.below (by omega) HB_3.out.size))
  have HR_4 := Lib.hid (bxK HR_3.out hk3 (by omega))
  have HC_4 := Lib.hid (hc3)
  have HL_4 := Lib.hid (HL_3.out.keep (w' := W3) fun i h0 h1 h2 => hk3.block i h0 (by omega))
  have hsW3 := hk3.size
  clear hc3 hk3
  have hgs := gap_small (s := s) htr
  have HPA := Lib.hid (sProveAbsence_any Al nl cl l s W3 ((HL_4.out.rd).more (by omega)) (by omega) (by omega))
  have hll := HLEN.out
  generalize proveA l s = pr at HPA hgs
  obtain ⟨k, ok⟩ := pr
  simp only at HPA hgs
  go_wp2_with fail
  refine HPA.out.mono ?_
  rintro e W4 ⟨cs4, rfl, hown4, hb4⟩
  obtain ⟨A0, n0, c0, A1, n1, c1, A2, n2, c2, A3, n3, c3, rfl⟩ := RGap_shape hown4.rd
  have HB_5 := Lib.hid (HB_4.out.trans (hb4.mono HB_4.out.size))
  have HR_5 := Lib.hid (HR_4.out.below hb4 HR_4.out.lt)
  have HC_5 := Lib.hid (HC_4.out.below hb4)
  have HL_5 := Lib.hid (HL_4.out.below hb4 (by omega))
  have hsW4 := hb4.size
  have HP_5 := Lib.hid hown4
  clear hown4 hb4 HPA
  have hal : Below W4.heap.size W4 (W4.alloc (.cells #[.int .i64 k.at_, .string k.before.label, .int .i64 k.before.kind, .int .i64 k.before.value, .slice A0 n0 c0, .string k.after.label, .int .i64 k.after.kind, .int .i64 k.after.value, .slice A1 n1 c1, .int .i64 k.left.at_, .slice A2 n2 c2, .int .i64 k.right.at_, .slice A3 n3 c3] 34)) := (Below.refl _ _).alloc (Nat.le_refl _) _
  have HGx := Lib.hid (Box.new W4 #[.int .i64 k.at_, .string k.before.label, .int .i64 k.before.kind, .int .i64 k.before.value, .slice A0 n0 c0, .string k.after.label, .int .i64 k.after.kind, .int .i64 k.after.value, .slice A1 n1 c1, .int .i64 k.left.at_, .slice A2 n2 c2, .int .i64 k.right.at_, .slice A3 n3 c3] 34)
  generalize hV4 : W4.alloc (.cells #[.int .i64 k.at_, .string k.before.label, .int .i64 k.before.kind, .int .i64 k.before.value, .slice A0 n0 c0, .string k.after.label, .int .i64 k.after.kind, .int .i64 k.after.value, .slice A1 n1 c1, .int .i64 k.left.at_, .slice A2 n2 c2, .int .i64 k.right.at_, .slice A3 n3 c3] 34) = V4 at hal HGx
  have hV4s : V4.heap.size = W4.heap.size + 1 := by rw [← hV4]; simp
  have HB_6 := Lib.hid (HB_5.out.trans (hal.mono HB_5.out.size))
  have HR_6 := Lib.hid (HR_5.out.below hal HR_5.out.lt)
  have HC_6 := Lib.hid (HC_5.out.below hal)
  have HL_6 := Lib.hid (HL_5.out.below hal (by omega))
  have HP_6 := Lib.hid (HP_5.out.below hal (by omega))
  have hsV4 := hal.size
  have HG_6 := Lib.hid (show Box V4 W4.heap.size [.int .i64 k.at_, .string k.before.label, .int .i64 k.before.kind, .int .i64 k.before.value, .slice A0 n0 c0, .string k.after.label, .int .i64 k.after.kind, .int .i64 k.after.value, .slice A1 n1 c1, .int .i64 k.left.at_, .slice A2 n2 c2, .int .i64 k.right.at_, .slice A3 n3 c3] from HGx.out)
  have HV4 := Lib.hid hV4
  clear hal hV4 HGx
  go_wp2_with fail
  rw [HV4.out]
  refine (l1Below_any 8 _ _ g HC_6.out).mono ?_
  rintro e W5 ⟨v, ⟨y, hy0, hy1, rfl⟩, rfl, hc5, hk5⟩
  have HB_7 := Lib.hid (HB_6.out.trans (hk5.below (by omega) HB_6.out.size))
  have HR_7 := Lib.hid (bxK HR_6.out hk5 (by omega))
  have HC_7 := Lib.hid (hc5)
  have HL_7 := Lib.hid (HL_6.out.keep (w' := W5) fun i h0 h1 h2 => hk5.block i h0 (by omega))
  have HP_7 := Lib.hid (HP_6.out.keep (w' := W5) fun i h0 h1 h2 => hk5.block i h0 (by omega))
  have HG_7 := Lib.hid (bxK HG_6.out hk5 (by omega))
  have hsW5 := hk5.size
  clear hc5 hk5 hy1
  have hne1 : W4.heap.size ≠ w.heap.size := by omega
  have hne2 : w.heap.size ≠ W4.heap.size := by omega
  by_cases q0 : y = 0
  · subst q0
    go_wp2_with fail
    refine (l4Any_any _ _ g HC_7.out).mono ?_
    rintro e W6 ⟨v, ⟨s2, hs2, rfl⟩, rfl, hc6, hk6⟩
    have HB_8 := Lib.hid (HB_7.out.trans (hk6.below (by omega) HB_7.out.size))
    have HR_8 := Lib.hid (bxK HR_7.out hk6 (by omega))
    have HC_8 := Lib.hid (hc6)
    have HL_8 := Lib.hid (HL_7.out.keep (w' := W6) fun i h0 h1 h2 => hk6.block i h0 (by omega))
    have HP_8 := Lib.hid (HP_7.out.keep (w' := W6) fun i h0 h1 h2 => hk6.block i h0 (by omega))
    have HG_8 := Lib.hid (bxK HG_7.out hk6 (by omega))
    have hsW6 := hk6.size
    clear hc6 hk6
    go_wp2_with fail
    have hdr : Below W6.heap.size W6 W6.drew := (Below.refl _ _).drew
    have hdrs : W6.drew.heap.size = W6.heap.size := rfl
    have HB_9 := Lib.hid (HB_8.out.trans (hdr.mono HB_8.out.size))
    have HR_9 := Lib.hid (HR_8.out.below hdr HR_8.out.lt)
    have HC_9 := Lib.hid (HC_8.out.below hdr)
    have HL_9 := Lib.hid (HL_8.out.below hdr (by omega))
    have HP_9 := Lib.hid (HP_8.out.below hdr (by omega))
    have HG_9 := Lib.hid (HG_8.out.below hdr HG_8.out.lt)
    have hsW6_drew := hdr.size
    clear hdr
    have zR0 := HR_9.out.cell (j := 0) rfl
    have fR0 := HR_9.out.warm (j := 0) rfl
    have zR1 := HR_9.out.cell (j := 1) rfl
    have fR1 := HR_9.out.warm (j := 1) rfl
    have zR2 := HR_9.out.cell (j := 2) rfl
    have fR2 := HR_9.out.warm (j := 2) rfl
    have zR3 := HR_9.out.cell (j := 3) rfl
    have fR3 := HR_9.out.warm (j := 3) rfl
    have zR4 := HR_9.out.cell (j := 4) rfl
    have fR4 := HR_9.out.warm (j := 4) rfl
    have zR5 := HR_9.out.cell (j := 5) rfl
    have fR5 := HR_9.out.warm (j := 5) rfl
    have zR6 := HR_9.out.cell (j := 6) rfl
    have fR6 := HR_9.out.warm (j := 6) rfl
    have zR7 := HR_9.out.cell (j := 7) rfl
    have fR7 := HR_9.out.warm (j := 7) rfl
    have zR8 := HR_9.out.cell (j := 8) rfl
    have fR8 := HR_9.out.warm (j := 8) rfl
    have zR9 := HR_9.out.cell (j := 9) rfl
    have fR9 := HR_9.out.warm (j := 9) rfl
    have zR10 := HR_9.out.cell (j := 10) rfl
    have fR10 := HR_9.out.warm (j := 10) rfl
    have zR11 := HR_9.out.cell (j := 11) rfl
    have fR11 := HR_9.out.warm (j := 11) rfl
    have zR12 := HR_9.out.cell (j := 12) rfl
    have fR12 := HR_9.out.warm (j := 12) rfl
    have zG0 := HG_9.out.cell (j := 0) rfl
    have zG1 := HG_9.out.cell (j := 1) rfl
    have zG2 := HG_9.out.cell (j := 2) rfl
    have zG3 := HG_9.out.cell (j := 3) rfl
    have zG4 := HG_9.out.cell (j := 4) rfl
    have zG5 := HG_9.out.cell (j := 5) rfl
    have zG6 := HG_9.out.cell (j := 6) rfl
    have zG7 := HG_9.out.cell (j := 7) rfl
    have zG8 := HG_9.out.cell (j := 8) rfl
    have zG9 := HG_9.out.cell (j := 9) rfl
    have zG10 := HG_9.out.cell (j := 10) rfl
    have zG11 := HG_9.out.cell (j := 11) rfl
    have zG12 := HG_9.out.cell (j := 12) rfl
    have HRX := Lib.hid (show FRdEntry W6.drew W6.drew.heap.size Al nl l from (HL_9.out.rd).more (by omega))
    go_region_held3 (fun w' => w'.cell? ⟨W4.heap.size, 0, none⟩ = some (.int .i64 k.at_) ∧ w'.cell? ⟨W4.heap.size, 1, none⟩ = some (.string k.before.label) ∧ w'.cell? ⟨W4.heap.size, 2, none⟩ = some (.int .i64 k.before.kind) ∧ w'.cell? ⟨W4.heap.size, 3, none⟩ = some (.int .i64 k.before.value) ∧ w'.cell? ⟨W4.heap.size, 4, none⟩ = some (.slice A0 n0 c0) ∧ w'.cell? ⟨W4.heap.size, 5, none⟩ = some (.string k.after.label) ∧ w'.cell? ⟨W4.heap.size, 6, none⟩ = some (.int .i64 k.after.kind) ∧ w'.cell? ⟨W4.heap.size, 7, none⟩ = some (.int .i64 k.after.value) ∧ w'.cell? ⟨W4.heap.size, 8, none⟩ = some (.slice A1 n1 c1) ∧ w'.cell? ⟨W4.heap.size, 9, none⟩ = some (.int .i64 k.left.at_) ∧ w'.cell? ⟨W4.heap.size, 10, none⟩ = some (.slice A2 n2 c2) ∧ w'.cell? ⟨W4.heap.size, 11, none⟩ = some (.int .i64 k.right.at_) ∧ w'.cell? ⟨W4.heap.size, 12, none⟩ = some (.slice A3 n3 c3)) (go_keep) ((first
      | (go_at_call 42; refine (HRT.out _ HRX.out).mono ?_; rintro e U1 ⟨rfl, hb⟩; have HB_10 := Lib.hid (HB_9.out.trans (hb.mono HB_9.out.size)); have HR_10 := Lib.hid (HR_9.out.below hb HR_9.out.lt); have HC_10 := Lib.hid (HC_9.out.below hb); have HL_10 := Lib.hid (HL_9.out.below hb (by omega)); have HP_10 := Lib.hid (HP_9.out.below hb (by omega)); have HG_10 := Lib.hid (HG_9.out.below hb HG_9.out.lt); have hsU1 := hb.size; have y1R0 := HR_10.out.cell (j := 0) rfl; have g1R0 := HR_10.out.warm (j := 0) rfl; have y1R1 := HR_10.out.cell (j := 1) rfl; have g1R1 := HR_10.out.warm (j := 1) rfl; have y1R2 := HR_10.out.cell (j := 2) rfl; have g1R2 := HR_10.out.warm (j := 2) rfl; have y1R3 := HR_10.out.cell (j := 3) rfl; have g1R3 := HR_10.out.warm (j := 3) rfl; have y1R4 := HR_10.out.cell (j := 4) rfl; have g1R4 := HR_10.out.warm (j := 4) rfl; have y1R5 := HR_10.out.cell (j := 5) rfl; have g1R5 := HR_10.out.warm (j := 5) rfl; have y1R6 := HR_10.out.cell (j := 6) rfl; have g1R6 := HR_10.out.warm (j := 6) rfl; have y1R7 := HR_10.out.cell (j := 7) rfl; have g1R7 := HR_10.out.warm (j := 7) rfl; have y1R8 := HR_10.out.cell (j := 8) rfl; have g1R8 := HR_10.out.warm (j := 8) rfl; have y1R9 := HR_10.out.cell (j := 9) rfl; have g1R9 := HR_10.out.warm (j := 9) rfl; have y1R10 := HR_10.out.cell (j := 10) rfl; have g1R10 := HR_10.out.warm (j := 10) rfl; have y1R11 := HR_10.out.cell (j := 11) rfl; have g1R11 := HR_10.out.warm (j := 11) rfl; have y1R12 := HR_10.out.cell (j := 12) rfl; have g1R12 := HR_10.out.warm (j := 12) rfl; have y1G0 := HG_10.out.cell (j := 0) rfl; have y1G1 := HG_10.out.cell (j := 1) rfl; have y1G2 := HG_10.out.cell (j := 2) rfl; have y1G3 := HG_10.out.cell (j := 3) rfl; have y1G4 := HG_10.out.cell (j := 4) rfl; have y1G5 := HG_10.out.cell (j := 5) rfl; have y1G6 := HG_10.out.cell (j := 6) rfl; have y1G7 := HG_10.out.cell (j := 7) rfl; have y1G8 := HG_10.out.cell (j := 8) rfl; have y1G9 := HG_10.out.cell (j := 9) rfl; have y1G10 := HG_10.out.cell (j := 10) rfl; have y1G11 := HG_10.out.cell (j := 11) rfl; have y1G12 := HG_10.out.cell (j := 12) rfl; clear hb)
      | (go_at_call 43; refine (l12Bent_any _ k U1 V.heap.size g W3.heap.size W4.heap.size HC_10.out (by omega) (by omega) (by omega) HP_10.out (by omega) (by omega) (by omega) (by omega)).mono ?_; rintro e U2 ⟨cs9, k9, rfl, hrd, htg, hkt⟩; obtain ⟨b0, m0, d0, b1, m1, d1, b2, m2, d2, b3, m3, d3, hsh⟩ := RGap_shape hrd; subst hsh; have hsh : True := trivial; have HB_11 := Lib.hid (HB_10.out.trans (hkt.below (by omega) (by omega) HB_10.out.size)); have HR_11 := Lib.hid (hkt.box HR_10.out (by omega) (by omega)); have HG_11 := Lib.hid (hkt.box HG_10.out (by omega) (by omega)); have y2R0 := HR_11.out.cell (j := 0) rfl; have g2R0 := HR_11.out.warm (j := 0) rfl; have y2R1 := HR_11.out.cell (j := 1) rfl; have g2R1 := HR_11.out.warm (j := 1) rfl; have y2R2 := HR_11.out.cell (j := 2) rfl; have g2R2 := HR_11.out.warm (j := 2) rfl; have y2R3 := HR_11.out.cell (j := 3) rfl; have g2R3 := HR_11.out.warm (j := 3) rfl; have y2R4 := HR_11.out.cell (j := 4) rfl; have g2R4 := HR_11.out.warm (j := 4) rfl; have y2R5 := HR_11.out.cell (j := 5) rfl; have g2R5 := HR_11.out.warm (j := 5) rfl; have y2R6 := HR_11.out.cell (j := 6) rfl; have g2R6 := HR_11.out.warm (j := 6) rfl; have y2R7 := HR_11.out.cell (j := 7) rfl; have g2R7 := HR_11.out.warm (j := 7) rfl; have y2R8 := HR_11.out.cell (j := 8) rfl; have g2R8 := HR_11.out.warm (j := 8) rfl; have y2R9 := HR_11.out.cell (j := 9) rfl; have g2R9 := HR_11.out.warm (j := 9) rfl; have y2R10 := HR_11.out.cell (j := 10) rfl; have g2R10 := HR_11.out.warm (j := 10) rfl; have y2R11 := HR_11.out.cell (j := 11) rfl; have g2R11 := HR_11.out.warm (j := 11) rfl; have y2R12 := HR_11.out.cell (j := 12) rfl; have g2R12 := HR_11.out.warm (j := 12) rfl; have y2G0 := HG_11.out.cell (j := 0) rfl; have y2G1 := HG_11.out.cell (j := 1) rfl; have y2G2 := HG_11.out.cell (j := 2) rfl; have y2G3 := HG_11.out.cell (j := 3) rfl; have y2G4 := HG_11.out.cell (j := 4) rfl; have y2G5 := HG_11.out.cell (j := 5) rfl; have y2G6 := HG_11.out.cell (j := 6) rfl; have y2G7 := HG_11.out.cell (j := 7) rfl; have y2G8 := HG_11.out.cell (j := 8) rfl; have y2G9 := HG_11.out.cell (j := 9) rfl; have y2G10 := HG_11.out.cell (j := 10) rfl; have y2G11 := HG_11.out.cell (j := 11) rfl; have y2G12 := HG_11.out.cell (j := 12) rfl; have HGR := Lib.hid hrd; have HGS := Lib.hid hsh; clear hrd hkt hsh)))
    go_wp2
    obtain ⟨VF, hVF⟩ : ∃ V, puts U2 w.heap.size 0 [.int .i64 k9.at_, .string k9.before.label, .int .i64 k9.before.kind, .int .i64 k9.before.value, .slice b0 m0 d0, .string k9.after.label, .int .i64 k9.after.kind, .int .i64 k9.after.value, .slice b1 m1 d1, .int .i64 k9.left.at_, .slice b2 m2 d2, .int .i64 k9.right.at_, .slice b3 m3 d3] = V := ⟨_, rfl⟩
    rw [show ((((((((((((U2.setCell ⟨w.heap.size, 0, none⟩ (.int .i64 k9.at_)).setCell ⟨w.heap.size, 1, none⟩ (.string k9.before.label)).setCell ⟨w.heap.size, 2, none⟩ (.int .i64 k9.before.kind)).setCell ⟨w.heap.size, 3, none⟩ (.int .i64 k9.before.value)).setCell ⟨w.heap.size, 4, none⟩ (.slice b0 m0 d0)).setCell ⟨w.heap.size, 5, none⟩ (.string k9.after.label)).setCell ⟨w.heap.size, 6, none⟩ (.int .i64 k9.after.kind)).setCell ⟨w.heap.size, 7, none⟩ (.int .i64 k9.after.value)).setCell ⟨w.heap.size, 8, none⟩ (.slice b1 m1 d1)).setCell ⟨w.heap.size, 9, none⟩ (.int .i64 k9.left.at_)).setCell ⟨w.heap.size, 10, none⟩ (.slice b2 m2 d2)).setCell ⟨w.heap.size, 11, none⟩ (.int .i64 k9.right.at_)).setCell ⟨w.heap.size, 12, none⟩ (.slice b3 m3 d3) = VF from hVF]
    have hRF := show Box VF w.heap.size [.int .i64 k9.at_, .string k9.before.label, .int .i64 k9.before.kind, .int .i64 k9.before.value, .slice b0 m0 d0, .string k9.after.label, .int .i64 k9.after.kind, .int .i64 k9.after.value, .slice b1 m1 d1, .int .i64 k9.left.at_, .slice b2 m2 d2, .int .i64 k9.right.at_, .slice b3 m3 d3] from pt_self hVF HR_11.out (by simp)
    have zR0 := hRF.cell (j := 0) rfl
    have zR1 := hRF.cell (j := 1) rfl
    have zR2 := hRF.cell (j := 2) rfl
    have zR3 := hRF.cell (j := 3) rfl
    have zR4 := hRF.cell (j := 4) rfl
    have zR5 := hRF.cell (j := 5) rfl
    have zR6 := hRF.cell (j := 6) rfl
    have zR7 := hRF.cell (j := 7) rfl
    have zR8 := hRF.cell (j := 8) rfl
    have zR9 := hRF.cell (j := 9) rfl
    have zR10 := hRF.cell (j := 10) rfl
    have zR11 := hRF.cell (j := 11) rfl
    have zR12 := hRF.cell (j := 12) rfl
    refine bodyPost_ret (v := .tuple #[.int .i64 r, .int .i64 (nl : Int), .string s2, .agg #[.int .i64 k9.at_, .string k9.before.label, .int .i64 k9.before.kind, .int .i64 k9.before.value, .slice b0 m0 d0, .string k9.after.label, .int .i64 k9.after.kind, .int .i64 k9.after.value, .slice b1 m1 d1, .int .i64 k9.left.at_, .slice b2 m2 d2, .int .i64 k9.right.at_, .slice b3 m3 d3]]) (by simp [results, Tryz.results12, go_sem, zR0, zR1, zR2, zR3, zR4, zR5, zR6, zR7, zR8, zR9, zR10, zR11, zR12]) rfl ⟨r, (nl : Int), s2, [.int .i64 k9.at_, .string k9.before.label, .int .i64 k9.before.kind, .int .i64 k9.before.value, .slice b0 m0 d0, .string k9.after.label, .int .i64 k9.after.kind, .int .i64 k9.after.value, .slice b1 m1 d1, .int .i64 k9.left.at_, .slice b2 m2 d2, .int .i64 k9.right.at_, .slice b3 m3 d3], k9, rfl, by omega, by omega, by omega, gap_lt hVF HGR.out (by omega), by omega, pt_bel hVF HB_11.out (by omega)⟩
  · have qb0 : (y == 0) = false := beq_eq_false_iff_ne.2 q0
    by_cases q1 : y = 1
    · subst q1
      go_wp2_with fail
      have hdr : Below W5.heap.size W5 W5.drew := (Below.refl _ _).drew
      have hdrs : W5.drew.heap.size = W5.heap.size := rfl
      have HB_8 := Lib.hid (HB_7.out.trans (hdr.mono HB_7.out.size))
      have HR_8 := Lib.hid (HR_7.out.below hdr HR_7.out.lt)
      have HC_8 := Lib.hid (HC_7.out.below hdr)
      have HL_8 := Lib.hid (HL_7.out.below hdr (by omega))
      have HP_8 := Lib.hid (HP_7.out.below hdr (by omega))
      have HG_8 := Lib.hid (HG_7.out.below hdr HG_7.out.lt)
      have hsW5_drew := hdr.size
      clear hdr
      have zR0 := HR_8.out.cell (j := 0) rfl
      have fR0 := HR_8.out.warm (j := 0) rfl
      have zR1 := HR_8.out.cell (j := 1) rfl
      have fR1 := HR_8.out.warm (j := 1) rfl
      have zR2 := HR_8.out.cell (j := 2) rfl
      have fR2 := HR_8.out.warm (j := 2) rfl
      have zR3 := HR_8.out.cell (j := 3) rfl
      have fR3 := HR_8.out.warm (j := 3) rfl
      have zR4 := HR_8.out.cell (j := 4) rfl
      have fR4 := HR_8.out.warm (j := 4) rfl
      have zR5 := HR_8.out.cell (j := 5) rfl
      have fR5 := HR_8.out.warm (j := 5) rfl
      have zR6 := HR_8.out.cell (j := 6) rfl
      have fR6 := HR_8.out.warm (j := 6) rfl
      have zR7 := HR_8.out.cell (j := 7) rfl
      have fR7 := HR_8.out.warm (j := 7) rfl
      have zR8 := HR_8.out.cell (j := 8) rfl
      have fR8 := HR_8.out.warm (j := 8) rfl
      have zR9 := HR_8.out.cell (j := 9) rfl
      have fR9 := HR_8.out.warm (j := 9) rfl
      have zR10 := HR_8.out.cell (j := 10) rfl
      have fR10 := HR_8.out.warm (j := 10) rfl
      have zR11 := HR_8.out.cell (j := 11) rfl
      have fR11 := HR_8.out.warm (j := 11) rfl
      have zR12 := HR_8.out.cell (j := 12) rfl
      have fR12 := HR_8.out.warm (j := 12) rfl
      have zG0 := HG_8.out.cell (j := 0) rfl
      have zG1 := HG_8.out.cell (j := 1) rfl
      have zG2 := HG_8.out.cell (j := 2) rfl
      have zG3 := HG_8.out.cell (j := 3) rfl
      have zG4 := HG_8.out.cell (j := 4) rfl
      have zG5 := HG_8.out.cell (j := 5) rfl
      have zG6 := HG_8.out.cell (j := 6) rfl
      have zG7 := HG_8.out.cell (j := 7) rfl
      have zG8 := HG_8.out.cell (j := 8) rfl
      have zG9 := HG_8.out.cell (j := 9) rfl
      have zG10 := HG_8.out.cell (j := 10) rfl
      have zG11 := HG_8.out.cell (j := 11) rfl
      have zG12 := HG_8.out.cell (j := 12) rfl
      have HRX := Lib.hid (show FRdEntry W5.drew W5.drew.heap.size Al nl l from (HL_8.out.rd).more (by omega))
      go_region_held3 (fun w' => w'.cell? ⟨W4.heap.size, 0, none⟩ = some (.int .i64 k.at_) ∧ w'.cell? ⟨W4.heap.size, 1, none⟩ = some (.string k.before.label) ∧ w'.cell? ⟨W4.heap.size, 2, none⟩ = some (.int .i64 k.before.kind) ∧ w'.cell? ⟨W4.heap.size, 3, none⟩ = some (.int .i64 k.before.value) ∧ w'.cell? ⟨W4.heap.size, 4, none⟩ = some (.slice A0 n0 c0) ∧ w'.cell? ⟨W4.heap.size, 5, none⟩ = some (.string k.after.label) ∧ w'.cell? ⟨W4.heap.size, 6, none⟩ = some (.int .i64 k.after.kind) ∧ w'.cell? ⟨W4.heap.size, 7, none⟩ = some (.int .i64 k.after.value) ∧ w'.cell? ⟨W4.heap.size, 8, none⟩ = some (.slice A1 n1 c1) ∧ w'.cell? ⟨W4.heap.size, 9, none⟩ = some (.int .i64 k.left.at_) ∧ w'.cell? ⟨W4.heap.size, 10, none⟩ = some (.slice A2 n2 c2) ∧ w'.cell? ⟨W4.heap.size, 11, none⟩ = some (.int .i64 k.right.at_) ∧ w'.cell? ⟨W4.heap.size, 12, none⟩ = some (.slice A3 n3 c3)) (go_keep) ((first
        | (go_at_call 42; refine (HRT.out _ HRX.out).mono ?_; rintro e U1 ⟨rfl, hb⟩; have HB_9 := Lib.hid (HB_8.out.trans (hb.mono HB_8.out.size)); have HR_9 := Lib.hid (HR_8.out.below hb HR_8.out.lt); have HC_9 := Lib.hid (HC_8.out.below hb); have HL_9 := Lib.hid (HL_8.out.below hb (by omega)); have HP_9 := Lib.hid (HP_8.out.below hb (by omega)); have HG_9 := Lib.hid (HG_8.out.below hb HG_8.out.lt); have hsU1 := hb.size; have y1R0 := HR_9.out.cell (j := 0) rfl; have g1R0 := HR_9.out.warm (j := 0) rfl; have y1R1 := HR_9.out.cell (j := 1) rfl; have g1R1 := HR_9.out.warm (j := 1) rfl; have y1R2 := HR_9.out.cell (j := 2) rfl; have g1R2 := HR_9.out.warm (j := 2) rfl; have y1R3 := HR_9.out.cell (j := 3) rfl; have g1R3 := HR_9.out.warm (j := 3) rfl; have y1R4 := HR_9.out.cell (j := 4) rfl; have g1R4 := HR_9.out.warm (j := 4) rfl; have y1R5 := HR_9.out.cell (j := 5) rfl; have g1R5 := HR_9.out.warm (j := 5) rfl; have y1R6 := HR_9.out.cell (j := 6) rfl; have g1R6 := HR_9.out.warm (j := 6) rfl; have y1R7 := HR_9.out.cell (j := 7) rfl; have g1R7 := HR_9.out.warm (j := 7) rfl; have y1R8 := HR_9.out.cell (j := 8) rfl; have g1R8 := HR_9.out.warm (j := 8) rfl; have y1R9 := HR_9.out.cell (j := 9) rfl; have g1R9 := HR_9.out.warm (j := 9) rfl; have y1R10 := HR_9.out.cell (j := 10) rfl; have g1R10 := HR_9.out.warm (j := 10) rfl; have y1R11 := HR_9.out.cell (j := 11) rfl; have g1R11 := HR_9.out.warm (j := 11) rfl; have y1R12 := HR_9.out.cell (j := 12) rfl; have g1R12 := HR_9.out.warm (j := 12) rfl; have y1G0 := HG_9.out.cell (j := 0) rfl; have y1G1 := HG_9.out.cell (j := 1) rfl; have y1G2 := HG_9.out.cell (j := 2) rfl; have y1G3 := HG_9.out.cell (j := 3) rfl; have y1G4 := HG_9.out.cell (j := 4) rfl; have y1G5 := HG_9.out.cell (j := 5) rfl; have y1G6 := HG_9.out.cell (j := 6) rfl; have y1G7 := HG_9.out.cell (j := 7) rfl; have y1G8 := HG_9.out.cell (j := 8) rfl; have y1G9 := HG_9.out.cell (j := 9) rfl; have y1G10 := HG_9.out.cell (j := 10) rfl; have y1G11 := HG_9.out.cell (j := 11) rfl; have y1G12 := HG_9.out.cell (j := 12) rfl; clear hb)))
      go_wp2
      obtain ⟨VF, hVF⟩ : ∃ V, puts U1 w.heap.size 0 [.int .i64 k.at_, .string k.before.label, .int .i64 k.before.kind, .int .i64 k.before.value, .slice A0 n0 c0, .string k.after.label, .int .i64 k.after.kind, .int .i64 k.after.value, .slice A1 n1 c1, .int .i64 k.left.at_, .slice A2 n2 c2, .int .i64 k.right.at_, .slice A3 n3 c3] = V := ⟨_, rfl⟩
      rw [show ((((((((((((U1.setCell ⟨w.heap.size, 0, none⟩ (.int .i64 k.at_)).setCell ⟨w.heap.size, 1, none⟩ (.string k.before.label)).setCell ⟨w.heap.size, 2, none⟩ (.int .i64 k.before.kind)).setCell ⟨w.heap.size, 3, none⟩ (.int .i64 k.before.value)).setCell ⟨w.heap.size, 4, none⟩ (.slice A0 n0 c0)).setCell ⟨w.heap.size, 5, none⟩ (.string k.after.label)).setCell ⟨w.heap.size, 6, none⟩ (.int .i64 k.after.kind)).setCell ⟨w.heap.size, 7, none⟩ (.int .i64 k.after.value)).setCell ⟨w.heap.size, 8, none⟩ (.slice A1 n1 c1)).setCell ⟨w.heap.size, 9, none⟩ (.int .i64 k.left.at_)).setCell ⟨w.heap.size, 10, none⟩ (.slice A2 n2 c2)).setCell ⟨w.heap.size, 11, none⟩ (.int .i64 k.right.at_)).setCell ⟨w.heap.size, 12, none⟩ (.slice A3 n3 c3) = VF from hVF]
      have hRF := show Box VF w.heap.size [.int .i64 k.at_, .string k.before.label, .int .i64 k.before.kind, .int .i64 k.before.value, .slice A0 n0 c0, .string k.after.label, .int .i64 k.after.kind, .int .i64 k.after.value, .slice A1 n1 c1, .int .i64 k.left.at_, .slice A2 n2 c2, .int .i64 k.right.at_, .slice A3 n3 c3] from pt_self hVF HR_9.out (by simp)
      have zR0 := hRF.cell (j := 0) rfl
      have zR1 := hRF.cell (j := 1) rfl
      have zR2 := hRF.cell (j := 2) rfl
      have zR3 := hRF.cell (j := 3) rfl
      have zR4 := hRF.cell (j := 4) rfl
      have zR5 := hRF.cell (j := 5) rfl
      have zR6 := hRF.cell (j := 6) rfl
      have zR7 := hRF.cell (j := 7) rfl
      have zR8 := hRF.cell (j := 8) rfl
      have zR9 := hRF.cell (j := 9) rfl
      have zR10 := hRF.cell (j := 10) rfl
      have zR11 := hRF.cell (j := 11) rfl
      have zR12 := hRF.cell (j := 12) rfl
      have hw : IntKind.i64.wrap (r + 1) = (r + 1) := by rw [IntKind.wrap_i64]; omega
      refine bodyPost_ret (v := .tuple #[.int .i64 (r + 1), .int .i64 (nl : Int), .string s, .agg #[.int .i64 k.at_, .string k.before.label, .int .i64 k.before.kind, .int .i64 k.before.value, .slice A0 n0 c0, .string k.after.label, .int .i64 k.after.kind, .int .i64 k.after.value, .slice A1 n1 c1, .int .i64 k.left.at_, .slice A2 n2 c2, .int .i64 k.right.at_, .slice A3 n3 c3]]) (by simp [results, Tryz.results12, go_sem, zR0, zR1, zR2, zR3, zR4, zR5, zR6, zR7, zR8, zR9, zR10, zR11, zR12, hw]) rfl ⟨(r + 1), (nl : Int), s, [.int .i64 k.at_, .string k.before.label, .int .i64 k.before.kind, .int .i64 k.before.value, .slice A0 n0 c0, .string k.after.label, .int .i64 k.after.kind, .int .i64 k.after.value, .slice A1 n1 c1, .int .i64 k.left.at_, .slice A2 n2 c2, .int .i64 k.right.at_, .slice A3 n3 c3], k, rfl, by omega, by omega, by omega, gap_lt hVF (ownG_rd HP_9.out) (by omega), by unfold totGap totProof; omega, pt_bel hVF HB_9.out (by omega)⟩
    · have qb1 : (y == 1) = false := beq_eq_false_iff_ne.2 q1
      by_cases q2 : y = 2
      · subst q2
        go_wp2_with fail
        have hdr : Below W5.heap.size W5 W5.drew := (Below.refl _ _).drew
        have hdrs : W5.drew.heap.size = W5.heap.size := rfl
        have HB_8 := Lib.hid (HB_7.out.trans (hdr.mono HB_7.out.size))
        have HR_8 := Lib.hid (HR_7.out.below hdr HR_7.out.lt)
        have HC_8 := Lib.hid (HC_7.out.below hdr)
        have HL_8 := Lib.hid (HL_7.out.below hdr (by omega))
        have HP_8 := Lib.hid (HP_7.out.below hdr (by omega))
        have HG_8 := Lib.hid (HG_7.out.below hdr HG_7.out.lt)
        have hsW5_drew := hdr.size
        clear hdr
        have zR0 := HR_8.out.cell (j := 0) rfl
        have fR0 := HR_8.out.warm (j := 0) rfl
        have zR1 := HR_8.out.cell (j := 1) rfl
        have fR1 := HR_8.out.warm (j := 1) rfl
        have zR2 := HR_8.out.cell (j := 2) rfl
        have fR2 := HR_8.out.warm (j := 2) rfl
        have zR3 := HR_8.out.cell (j := 3) rfl
        have fR3 := HR_8.out.warm (j := 3) rfl
        have zR4 := HR_8.out.cell (j := 4) rfl
        have fR4 := HR_8.out.warm (j := 4) rfl
        have zR5 := HR_8.out.cell (j := 5) rfl
        have fR5 := HR_8.out.warm (j := 5) rfl
        have zR6 := HR_8.out.cell (j := 6) rfl
        have fR6 := HR_8.out.warm (j := 6) rfl
        have zR7 := HR_8.out.cell (j := 7) rfl
        have fR7 := HR_8.out.warm (j := 7) rfl
        have zR8 := HR_8.out.cell (j := 8) rfl
        have fR8 := HR_8.out.warm (j := 8) rfl
        have zR9 := HR_8.out.cell (j := 9) rfl
        have fR9 := HR_8.out.warm (j := 9) rfl
        have zR10 := HR_8.out.cell (j := 10) rfl
        have fR10 := HR_8.out.warm (j := 10) rfl
        have zR11 := HR_8.out.cell (j := 11) rfl
        have fR11 := HR_8.out.warm (j := 11) rfl
        have zR12 := HR_8.out.cell (j := 12) rfl
        have fR12 := HR_8.out.warm (j := 12) rfl
        have zG0 := HG_8.out.cell (j := 0) rfl
        have zG1 := HG_8.out.cell (j := 1) rfl
        have zG2 := HG_8.out.cell (j := 2) rfl
        have zG3 := HG_8.out.cell (j := 3) rfl
        have zG4 := HG_8.out.cell (j := 4) rfl
        have zG5 := HG_8.out.cell (j := 5) rfl
        have zG6 := HG_8.out.cell (j := 6) rfl
        have zG7 := HG_8.out.cell (j := 7) rfl
        have zG8 := HG_8.out.cell (j := 8) rfl
        have zG9 := HG_8.out.cell (j := 9) rfl
        have zG10 := HG_8.out.cell (j := 10) rfl
        have zG11 := HG_8.out.cell (j := 11) rfl
        have zG12 := HG_8.out.cell (j := 12) rfl
        have HRX := Lib.hid (show FRdEntry W5.drew W5.drew.heap.size Al nl l from (HL_8.out.rd).more (by omega))
        go_region_held3 (fun w' => w'.cell? ⟨W4.heap.size, 0, none⟩ = some (.int .i64 k.at_) ∧ w'.cell? ⟨W4.heap.size, 1, none⟩ = some (.string k.before.label) ∧ w'.cell? ⟨W4.heap.size, 2, none⟩ = some (.int .i64 k.before.kind) ∧ w'.cell? ⟨W4.heap.size, 3, none⟩ = some (.int .i64 k.before.value) ∧ w'.cell? ⟨W4.heap.size, 4, none⟩ = some (.slice A0 n0 c0) ∧ w'.cell? ⟨W4.heap.size, 5, none⟩ = some (.string k.after.label) ∧ w'.cell? ⟨W4.heap.size, 6, none⟩ = some (.int .i64 k.after.kind) ∧ w'.cell? ⟨W4.heap.size, 7, none⟩ = some (.int .i64 k.after.value) ∧ w'.cell? ⟨W4.heap.size, 8, none⟩ = some (.slice A1 n1 c1) ∧ w'.cell? ⟨W4.heap.size, 9, none⟩ = some (.int .i64 k.left.at_) ∧ w'.cell? ⟨W4.heap.size, 10, none⟩ = some (.slice A2 n2 c2) ∧ w'.cell? ⟨W4.heap.size, 11, none⟩ = some (.int .i64 k.right.at_) ∧ w'.cell? ⟨W4.heap.size, 12, none⟩ = some (.slice A3 n3 c3)) (go_keep) ((first
          | (go_at_call 42; refine (HRT.out _ HRX.out).mono ?_; rintro e U1 ⟨rfl, hb⟩; have HB_9 := Lib.hid (HB_8.out.trans (hb.mono HB_8.out.size)); have HR_9 := Lib.hid (HR_8.out.below hb HR_8.out.lt); have HC_9 := Lib.hid (HC_8.out.below hb); have HL_9 := Lib.hid (HL_8.out.below hb (by omega)); have HP_9 := Lib.hid (HP_8.out.below hb (by omega)); have HG_9 := Lib.hid (HG_8.out.below hb HG_8.out.lt); have hsU1 := hb.size; have y1R0 := HR_9.out.cell (j := 0) rfl; have g1R0 := HR_9.out.warm (j := 0) rfl; have y1R1 := HR_9.out.cell (j := 1) rfl; have g1R1 := HR_9.out.warm (j := 1) rfl; have y1R2 := HR_9.out.cell (j := 2) rfl; have g1R2 := HR_9.out.warm (j := 2) rfl; have y1R3 := HR_9.out.cell (j := 3) rfl; have g1R3 := HR_9.out.warm (j := 3) rfl; have y1R4 := HR_9.out.cell (j := 4) rfl; have g1R4 := HR_9.out.warm (j := 4) rfl; have y1R5 := HR_9.out.cell (j := 5) rfl; have g1R5 := HR_9.out.warm (j := 5) rfl; have y1R6 := HR_9.out.cell (j := 6) rfl; have g1R6 := HR_9.out.warm (j := 6) rfl; have y1R7 := HR_9.out.cell (j := 7) rfl; have g1R7 := HR_9.out.warm (j := 7) rfl; have y1R8 := HR_9.out.cell (j := 8) rfl; have g1R8 := HR_9.out.warm (j := 8) rfl; have y1R9 := HR_9.out.cell (j := 9) rfl; have g1R9 := HR_9.out.warm (j := 9) rfl; have y1R10 := HR_9.out.cell (j := 10) rfl; have g1R10 := HR_9.out.warm (j := 10) rfl; have y1R11 := HR_9.out.cell (j := 11) rfl; have g1R11 := HR_9.out.warm (j := 11) rfl; have y1R12 := HR_9.out.cell (j := 12) rfl; have g1R12 := HR_9.out.warm (j := 12) rfl; have y1G0 := HG_9.out.cell (j := 0) rfl; have y1G1 := HG_9.out.cell (j := 1) rfl; have y1G2 := HG_9.out.cell (j := 2) rfl; have y1G3 := HG_9.out.cell (j := 3) rfl; have y1G4 := HG_9.out.cell (j := 4) rfl; have y1G5 := HG_9.out.cell (j := 5) rfl; have y1G6 := HG_9.out.cell (j := 6) rfl; have y1G7 := HG_9.out.cell (j := 7) rfl; have y1G8 := HG_9.out.cell (j := 8) rfl; have y1G9 := HG_9.out.cell (j := 9) rfl; have y1G10 := HG_9.out.cell (j := 10) rfl; have y1G11 := HG_9.out.cell (j := 11) rfl; have y1G12 := HG_9.out.cell (j := 12) rfl; clear hb)))
        go_wp2
        obtain ⟨VF, hVF⟩ : ∃ V, puts U1 w.heap.size 0 [.int .i64 k.at_, .string k.before.label, .int .i64 k.before.kind, .int .i64 k.before.value, .slice A0 n0 c0, .string k.after.label, .int .i64 k.after.kind, .int .i64 k.after.value, .slice A1 n1 c1, .int .i64 k.left.at_, .slice A2 n2 c2, .int .i64 k.right.at_, .slice A3 n3 c3] = V := ⟨_, rfl⟩
        rw [show ((((((((((((U1.setCell ⟨w.heap.size, 0, none⟩ (.int .i64 k.at_)).setCell ⟨w.heap.size, 1, none⟩ (.string k.before.label)).setCell ⟨w.heap.size, 2, none⟩ (.int .i64 k.before.kind)).setCell ⟨w.heap.size, 3, none⟩ (.int .i64 k.before.value)).setCell ⟨w.heap.size, 4, none⟩ (.slice A0 n0 c0)).setCell ⟨w.heap.size, 5, none⟩ (.string k.after.label)).setCell ⟨w.heap.size, 6, none⟩ (.int .i64 k.after.kind)).setCell ⟨w.heap.size, 7, none⟩ (.int .i64 k.after.value)).setCell ⟨w.heap.size, 8, none⟩ (.slice A1 n1 c1)).setCell ⟨w.heap.size, 9, none⟩ (.int .i64 k.left.at_)).setCell ⟨w.heap.size, 10, none⟩ (.slice A2 n2 c2)).setCell ⟨w.heap.size, 11, none⟩ (.int .i64 k.right.at_)).setCell ⟨w.heap.size, 12, none⟩ (.slice A3 n3 c3) = VF from hVF]
        have hRF := show Box VF w.heap.size [.int .i64 k.at_, .string k.before.label, .int .i64 k.before.kind, .int .i64 k.before.value, .slice A0 n0 c0, .string k.after.label, .int .i64 k.after.kind, .int .i64 k.after.value, .slice A1 n1 c1, .int .i64 k.left.at_, .slice A2 n2 c2, .int .i64 k.right.at_, .slice A3 n3 c3] from pt_self hVF HR_9.out (by simp)
        have zR0 := hRF.cell (j := 0) rfl
        have zR1 := hRF.cell (j := 1) rfl
        have zR2 := hRF.cell (j := 2) rfl
        have zR3 := hRF.cell (j := 3) rfl
        have zR4 := hRF.cell (j := 4) rfl
        have zR5 := hRF.cell (j := 5) rfl
        have zR6 := hRF.cell (j := 6) rfl
        have zR7 := hRF.cell (j := 7) rfl
        have zR8 := hRF.cell (j := 8) rfl
        have zR9 := hRF.cell (j := 9) rfl
        have zR10 := hRF.cell (j := 10) rfl
        have zR11 := hRF.cell (j := 11) rfl
        have zR12 := hRF.cell (j := 12) rfl
        have hw : IntKind.i64.wrap ((nl : Int) + 1) = ((nl : Int) + 1) := by rw [IntKind.wrap_i64]; omega
        refine bodyPost_ret (v := .tuple #[.int .i64 r, .int .i64 ((nl : Int) + 1), .string s, .agg #[.int .i64 k.at_, .string k.before.label, .int .i64 k.before.kind, .int .i64 k.before.value, .slice A0 n0 c0, .string k.after.label, .int .i64 k.after.kind, .int .i64 k.after.value, .slice A1 n1 c1, .int .i64 k.left.at_, .slice A2 n2 c2, .int .i64 k.right.at_, .slice A3 n3 c3]]) (by simp [results, Tryz.results12, go_sem, zR0, zR1, zR2, zR3, zR4, zR5, zR6, zR7, zR8, zR9, zR10, zR11, zR12, hw]) rfl ⟨r, ((nl : Int) + 1), s, [.int .i64 k.at_, .string k.before.label, .int .i64 k.before.kind, .int .i64 k.before.value, .slice A0 n0 c0, .string k.after.label, .int .i64 k.after.kind, .int .i64 k.after.value, .slice A1 n1 c1, .int .i64 k.left.at_, .slice A2 n2 c2, .int .i64 k.right.at_, .slice A3 n3 c3], k, rfl, by omega, by omega, by omega, gap_lt hVF (ownG_rd HP_9.out) (by omega), by unfold totGap totProof; omega, pt_bel hVF HB_9.out (by omega)⟩
      · have qb2 : (y == 2) = false := beq_eq_false_iff_ne.2 q2
        go_wp2_with fail
        have hdr : Below W5.heap.size W5 W5.drew := (Below.refl _ _).drew
        have hdrs : W5.drew.heap.size = W5.heap.size := rfl
        have HB_8 := Lib.hid (HB_7.out.trans (hdr.mono HB_7.out.size))
        have HR_8 := Lib.hid (HR_7.out.below hdr HR_7.out.lt)
        have HC_8 := Lib.hid (HC_7.out.below hdr)
        have HL_8 := Lib.hid (HL_7.out.below hdr (by omega))
        have HP_8 := Lib.hid (HP_7.out.below hdr (by omega))
        have HG_8 := Lib.hid (HG_7.out.below hdr HG_7.out.lt)
        have hsW5_drew := hdr.size
        clear hdr
        have zR0 := HR_8.out.cell (j := 0) rfl
        have fR0 := HR_8.out.warm (j := 0) rfl
        have zR1 := HR_8.out.cell (j := 1) rfl
        have fR1 := HR_8.out.warm (j := 1) rfl
        have zR2 := HR_8.out.cell (j := 2) rfl
        have fR2 := HR_8.out.warm (j := 2) rfl
        have zR3 := HR_8.out.cell (j := 3) rfl
        have fR3 := HR_8.out.warm (j := 3) rfl
        have zR4 := HR_8.out.cell (j := 4) rfl
        have fR4 := HR_8.out.warm (j := 4) rfl
        have zR5 := HR_8.out.cell (j := 5) rfl
        have fR5 := HR_8.out.warm (j := 5) rfl
        have zR6 := HR_8.out.cell (j := 6) rfl
        have fR6 := HR_8.out.warm (j := 6) rfl
        have zR7 := HR_8.out.cell (j := 7) rfl
        have fR7 := HR_8.out.warm (j := 7) rfl
        have zR8 := HR_8.out.cell (j := 8) rfl
        have fR8 := HR_8.out.warm (j := 8) rfl
        have zR9 := HR_8.out.cell (j := 9) rfl
        have fR9 := HR_8.out.warm (j := 9) rfl
        have zR10 := HR_8.out.cell (j := 10) rfl
        have fR10 := HR_8.out.warm (j := 10) rfl
        have zR11 := HR_8.out.cell (j := 11) rfl
        have fR11 := HR_8.out.warm (j := 11) rfl
        have zR12 := HR_8.out.cell (j := 12) rfl
        have fR12 := HR_8.out.warm (j := 12) rfl
        have zG0 := HG_8.out.cell (j := 0) rfl
        have zG1 := HG_8.out.cell (j := 1) rfl
        have zG2 := HG_8.out.cell (j := 2) rfl
        have zG3 := HG_8.out.cell (j := 3) rfl
        have zG4 := HG_8.out.cell (j := 4) rfl
        have zG5 := HG_8.out.cell (j := 5) rfl
        have zG6 := HG_8.out.cell (j := 6) rfl
        have zG7 := HG_8.out.cell (j := 7) rfl
        have zG8 := HG_8.out.cell (j := 8) rfl
        have zG9 := HG_8.out.cell (j := 9) rfl
        have zG10 := HG_8.out.cell (j := 10) rfl
        have zG11 := HG_8.out.cell (j := 11) rfl
        have zG12 := HG_8.out.cell (j := 12) rfl
        have HRX := Lib.hid (show FRdEntry W5.drew W5.drew.heap.size Al nl l from (HL_8.out.rd).more (by omega))
        go_region_held3 (fun w' => w'.cell? ⟨W4.heap.size, 0, none⟩ = some (.int .i64 k.at_) ∧ w'.cell? ⟨W4.heap.size, 1, none⟩ = some (.string k.before.label) ∧ w'.cell? ⟨W4.heap.size, 2, none⟩ = some (.int .i64 k.before.kind) ∧ w'.cell? ⟨W4.heap.size, 3, none⟩ = some (.int .i64 k.before.value) ∧ w'.cell? ⟨W4.heap.size, 4, none⟩ = some (.slice A0 n0 c0) ∧ w'.cell? ⟨W4.heap.size, 5, none⟩ = some (.string k.after.label) ∧ w'.cell? ⟨W4.heap.size, 6, none⟩ = some (.int .i64 k.after.kind) ∧ w'.cell? ⟨W4.heap.size, 7, none⟩ = some (.int .i64 k.after.value) ∧ w'.cell? ⟨W4.heap.size, 8, none⟩ = some (.slice A1 n1 c1) ∧ w'.cell? ⟨W4.heap.size, 9, none⟩ = some (.int .i64 k.left.at_) ∧ w'.cell? ⟨W4.heap.size, 10, none⟩ = some (.slice A2 n2 c2) ∧ w'.cell? ⟨W4.heap.size, 11, none⟩ = some (.int .i64 k.right.at_) ∧ w'.cell? ⟨W4.heap.size, 12, none⟩ = some (.slice A3 n3 c3)) (go_keep) ((first
          | (go_at_call 42; refine (HRT.out _ HRX.out).mono ?_; rintro e U1 ⟨rfl, hb⟩; have HB_9 := Lib.hid (HB_8.out.trans (hb.mono HB_8.out.size)); have HR_9 := Lib.hid (HR_8.out.below hb HR_8.out.lt); have HC_9 := Lib.hid (HC_8.out.below hb); have HL_9 := Lib.hid (HL_8.out.below hb (by omega)); have HP_9 := Lib.hid (HP_8.out.below hb (by omega)); have HG_9 := Lib.hid (HG_8.out.below hb HG_8.out.lt); have hsU1 := hb.size; have y1R0 := HR_9.out.cell (j := 0) rfl; have g1R0 := HR_9.out.warm (j := 0) rfl; have y1R1 := HR_9.out.cell (j := 1) rfl; have g1R1 := HR_9.out.warm (j := 1) rfl; have y1R2 := HR_9.out.cell (j := 2) rfl; have g1R2 := HR_9.out.warm (j := 2) rfl; have y1R3 := HR_9.out.cell (j := 3) rfl; have g1R3 := HR_9.out.warm (j := 3) rfl; have y1R4 := HR_9.out.cell (j := 4) rfl; have g1R4 := HR_9.out.warm (j := 4) rfl; have y1R5 := HR_9.out.cell (j := 5) rfl; have g1R5 := HR_9.out.warm (j := 5) rfl; have y1R6 := HR_9.out.cell (j := 6) rfl; have g1R6 := HR_9.out.warm (j := 6) rfl; have y1R7 := HR_9.out.cell (j := 7) rfl; have g1R7 := HR_9.out.warm (j := 7) rfl; have y1R8 := HR_9.out.cell (j := 8) rfl; have g1R8 := HR_9.out.warm (j := 8) rfl; have y1R9 := HR_9.out.cell (j := 9) rfl; have g1R9 := HR_9.out.warm (j := 9) rfl; have y1R10 := HR_9.out.cell (j := 10) rfl; have g1R10 := HR_9.out.warm (j := 10) rfl; have y1R11 := HR_9.out.cell (j := 11) rfl; have g1R11 := HR_9.out.warm (j := 11) rfl; have y1R12 := HR_9.out.cell (j := 12) rfl; have g1R12 := HR_9.out.warm (j := 12) rfl; have y1G0 := HG_9.out.cell (j := 0) rfl; have y1G1 := HG_9.out.cell (j := 1) rfl; have y1G2 := HG_9.out.cell (j := 2) rfl; have y1G3 := HG_9.out.cell (j := 3) rfl; have y1G4 := HG_9.out.cell (j := 4) rfl; have y1G5 := HG_9.out.cell (j := 5) rfl; have y1G6 := HG_9.out.cell (j := 6) rfl; have y1G7 := HG_9.out.cell (j := 7) rfl; have y1G8 := HG_9.out.cell (j := 8) rfl; have y1G9 := HG_9.out.cell (j := 9) rfl; have y1G10 := HG_9.out.cell (j := 10) rfl; have y1G11 := HG_9.out.cell (j := 11) rfl; have y1G12 := HG_9.out.cell (j := 12) rfl; clear hb)
          | (go_at_call 43; refine (l12Bent_any _ k U1 V.heap.size g W3.heap.size W4.heap.size HC_9.out (by omega) (by omega) (by omega) HP_9.out (by omega) (by omega) (by omega) (by omega)).mono ?_; rintro e U2 ⟨cs9, k9, rfl, hrd, htg, hkt⟩; obtain ⟨b0, m0, d0, b1, m1, d1, b2, m2, d2, b3, m3, d3, hsh⟩ := RGap_shape hrd; subst hsh; have hsh : True := trivial; have HB_10 := Lib.hid (HB_9.out.trans (hkt.below (by omega) (by omega) HB_9.out.size)); have HR_10 := Lib.hid (hkt.box HR_9.out (by omega) (by omega)); have HG_10 := Lib.hid (hkt.box HG_9.out (by omega) (by omega)); have y2R0 := HR_10.out.cell (j := 0) rfl; have g2R0 := HR_10.out.warm (j := 0) rfl; have y2R1 := HR_10.out.cell (j := 1) rfl; have g2R1 := HR_10.out.warm (j := 1) rfl; have y2R2 := HR_10.out.cell (j := 2) rfl; have g2R2 := HR_10.out.warm (j := 2) rfl; have y2R3 := HR_10.out.cell (j := 3) rfl; have g2R3 := HR_10.out.warm (j := 3) rfl; have y2R4 := HR_10.out.cell (j := 4) rfl; have g2R4 := HR_10.out.warm (j := 4) rfl; have y2R5 := HR_10.out.cell (j := 5) rfl; have g2R5 := HR_10.out.warm (j := 5) rfl; have y2R6 := HR_10.out.cell (j := 6) rfl; have g2R6 := HR_10.out.warm (j := 6) rfl; have y2R7 := HR_10.out.cell (j := 7) rfl; have g2R7 := HR_10.out.warm (j := 7) rfl; have y2R8 := HR_10.out.cell (j := 8) rfl; have g2R8 := HR_10.out.warm (j := 8) rfl; have y2R9 := HR_10.out.cell (j := 9) rfl; have g2R9 := HR_10.out.warm (j := 9) rfl; have y2R10 := HR_10.out.cell (j := 10) rfl; have g2R10 := HR_10.out.warm (j := 10) rfl; have y2R11 := HR_10.out.cell (j := 11) rfl; have g2R11 := HR_10.out.warm (j := 11) rfl; have y2R12 := HR_10.out.cell (j := 12) rfl; have g2R12 := HR_10.out.warm (j := 12) rfl; have y2G0 := HG_10.out.cell (j := 0) rfl; have y2G1 := HG_10.out.cell (j := 1) rfl; have y2G2 := HG_10.out.cell (j := 2) rfl; have y2G3 := HG_10.out.cell (j := 3) rfl; have y2G4 := HG_10.out.cell (j := 4) rfl; have y2G5 := HG_10.out.cell (j := 5) rfl; have y2G6 := HG_10.out.cell (j := 6) rfl; have y2G7 := HG_10.out.cell (j := 7) rfl; have y2G8 := HG_10.out.cell (j := 8) rfl; have y2G9 := HG_10.out.cell (j := 9) rfl; have y2G10 := HG_10.out.cell (j := 10) rfl; have y2G11 := HG_10.out.cell (j := 11) rfl; have y2G12 := HG_10.out.cell (j := 12) rfl; have HGR := Lib.hid hrd; have HGS := Lib.hid hsh; clear hrd hkt hsh)))
        go_wp2
        obtain ⟨VF, hVF⟩ : ∃ V, puts U2 w.heap.size 0 [.int .i64 k9.at_, .string k9.before.label, .int .i64 k9.before.kind, .int .i64 k9.before.value, .slice b0 m0 d0, .string k9.after.label, .int .i64 k9.after.kind, .int .i64 k9.after.value, .slice b1 m1 d1, .int .i64 k9.left.at_, .slice b2 m2 d2, .int .i64 k9.right.at_, .slice b3 m3 d3] = V := ⟨_, rfl⟩
        rw [show ((((((((((((U2.setCell ⟨w.heap.size, 0, none⟩ (.int .i64 k9.at_)).setCell ⟨w.heap.size, 1, none⟩ (.string k9.before.label)).setCell ⟨w.heap.size, 2, none⟩ (.int .i64 k9.before.kind)).setCell ⟨w.heap.size, 3, none⟩ (.int .i64 k9.before.value)).setCell ⟨w.heap.size, 4, none⟩ (.slice b0 m0 d0)).setCell ⟨w.heap.size, 5, none⟩ (.string k9.after.label)).setCell ⟨w.heap.size, 6, none⟩ (.int .i64 k9.after.kind)).setCell ⟨w.heap.size, 7, none⟩ (.int .i64 k9.after.value)).setCell ⟨w.heap.size, 8, none⟩ (.slice b1 m1 d1)).setCell ⟨w.heap.size, 9, none⟩ (.int .i64 k9.left.at_)).setCell ⟨w.heap.size, 10, none⟩ (.slice b2 m2 d2)).setCell ⟨w.heap.size, 11, none⟩ (.int .i64 k9.right.at_)).setCell ⟨w.heap.size, 12, none⟩ (.slice b3 m3 d3) = VF from hVF]
        have hRF := show Box VF w.heap.size [.int .i64 k9.at_, .string k9.before.label, .int .i64 k9.before.kind, .int .i64 k9.before.value, .slice b0 m0 d0, .string k9.after.label, .int .i64 k9.after.kind, .int .i64 k9.after.value, .slice b1 m1 d1, .int .i64 k9.left.at_, .slice b2 m2 d2, .int .i64 k9.right.at_, .slice b3 m3 d3] from pt_self hVF HR_10.out (by simp)
        have zR0 := hRF.cell (j := 0) rfl
        have zR1 := hRF.cell (j := 1) rfl
        have zR2 := hRF.cell (j := 2) rfl
        have zR3 := hRF.cell (j := 3) rfl
        have zR4 := hRF.cell (j := 4) rfl
        have zR5 := hRF.cell (j := 5) rfl
        have zR6 := hRF.cell (j := 6) rfl
        have zR7 := hRF.cell (j := 7) rfl
        have zR8 := hRF.cell (j := 8) rfl
        have zR9 := hRF.cell (j := 9) rfl
        have zR10 := hRF.cell (j := 10) rfl
        have zR11 := hRF.cell (j := 11) rfl
        have zR12 := hRF.cell (j := 12) rfl
        refine bodyPost_ret (v := .tuple #[.int .i64 r, .int .i64 (nl : Int), .string s, .agg #[.int .i64 k9.at_, .string k9.before.label, .int .i64 k9.before.kind, .int .i64 k9.before.value, .slice b0 m0 d0, .string k9.after.label, .int .i64 k9.after.kind, .int .i64 k9.after.value, .slice b1 m1 d1, .int .i64 k9.left.at_, .slice b2 m2 d2, .int .i64 k9.right.at_, .slice b3 m3 d3]]) (by simp [results, Tryz.results12, go_sem, zR0, zR1, zR2, zR3, zR4, zR5, zR6, zR7, zR8, zR9, zR10, zR11, zR12]) rfl ⟨r, (nl : Int), s, [.int .i64 k9.at_, .string k9.before.label, .int .i64 k9.before.kind, .int .i64 k9.before.value, .slice b0 m0 d0, .string k9.after.label, .int .i64 k9.after.kind, .int .i64 k9.after.value, .slice b1 m1 d1, .int .i64 k9.left.at_, .slice b2 m2 d2, .int .i64 k9.right.at_, .slice b3 m3 d3], k9, rfl, by omega, by omega, by omega, gap_lt hVF HGR.out (by omega), by omega, pt_bel hVF HB_10.out (by omega)⟩
end Go.Proofs.YtbhhifoofapgiaaGreat.D12
