/- Chapter 11: no drawn entry has the leaf of the value entry that FnPresence holds against it. -/
import Derived.Test.YtomajneofdmnaaaGreatD11
import Derived.Test.YtomajneofdmnaaaGreatM11M
import Derived.Test.YtomajneofdmnaaaGreatM11O
import Derived.Test.YtomajneofdmnaaaGreatM11
namespace Go.Proofs.YtomajneofdmnaaaGreat.M11Q
set_option linter.unusedVariables false
set_option maxRecDepth 100000
open Go.RowKit M03 M04 M05 M08 M09 M09F M10 M10F M11 R08 D11 M11P M11E M11L M11M M11O C01 C03D D05 D08 D09
def nb (s : ByteArray) : List Nat := s.data.toList.map UInt8.toNat
theorem nb_nums (s : ByteArray) : (nb s).map (fun (v : Nat) => (v : Int)) = nums s := by
  unfold nb nums
  rw [List.map_map]
  rfl
theorem nb_len (s : ByteArray) : (nb s).length = s.size := by
  unfold nb
  rw [List.length_map, Array.length_toList]
  rfl
theorem nb_lt {s : ByteArray} {v : Nat} (h : v ∈ nb s) : v < 256 := by
  obtain ⟨b, _, rfl⟩ := List.mem_map.1 h
  exact b.toNat_lt
theorem bt_nb (s : ByteArray) : (bt (nb s)).map (fun (v : Nat) => (v : Int)) = bti (nums s) := by
  unfold bt bti
  rw [List.map_cons, nb_nums, nb_len, nums_len]
theorem bt_lt {s : ByteArray} (hs : s.size ≤ 16) {v : Nat} (h : v ∈ bt (nb s)) : v < 2147483647 := by
  unfold bt at h
  rcases List.mem_cons.1 h with rfl | h
  · rw [nb_len]; omega
  · have := nb_lt h; omega
theorem pInts_map (p : List ByteArray) : (pInts (p.map nb)).map (fun (v : Nat) => (v : Int)) = (p.length : Int) :: (p.map fun s => bti (nums s)).flatten := by
  unfold pInts
  rw [List.map_cons, List.length_map, List.map_flatten, List.map_map, List.map_map]
  congr 2
  exact List.map_congr_left fun s _ => bt_nb s
theorem pInts_lt {p : List ByteArray} (hl : p.length ≤ 5) (hp : ∀ s ∈ p, s.size ≤ 16) {v : Nat} (h : v ∈ pInts (p.map nb)) : v < 2147483647 := by
  unfold pInts at h
  rcases List.mem_cons.1 h with rfl | h
  · rw [List.length_map]; omega
  · obtain ⟨l, hl, hv⟩ := List.mem_flatten.1 h
    rw [List.map_map] at hl
    obtain ⟨s, hs, rfl⟩ := List.mem_map.1 hl
    exact bt_lt (hp s hs) hv
theorem hOf_is {s : ByteArray} (hs : s.size ≤ 16) : (227 :: bti (nums s)).foldl hstep 11 = (hOf (nb s) : Int) := by
  unfold hOf
  rw [← fold_hst (227 :: bt (nb s)) 11 fun v hv => by
    rcases List.mem_cons.1 hv with rfl | hv
    · omega
    · exact bt_lt hs hv]
  rw [List.map_cons, bt_nb]
  rfl
theorem leaf_moved {s : ByteArray} {r : Nat} {p : List ByteArray} (hs : s.size ≤ 16) (hr : r < 2147483647) (hl : p.length ≤ 5) (hp : ∀ s ∈ p, s.size ≤ 16) : leafOf ⟨s, 3, (r : Int), p⟩ = ((pInts (p.map nb)).foldl nst (nst (nst (hOf (nb s)) 3) r) : Nat) := by
  have e : (227 :: entryInts ⟨s, 3, (r : Int), p⟩ : List Int) = (227 :: bti (nums s)) ++ [((3 : Nat) : Int), (r : Int)] ++ (pInts (p.map nb)).map (fun (v : Nat) => (v : Int)) := by
    unfold entryInts eiUpto
    rw [pInts_map, List.take_of_length_le (Nat.le_refl _)]
    simp
  unfold leafOf
  rw [e]
  unfold hsh
  rw [List.foldl_append, List.foldl_append, hOf_is hs]
  simp only [List.foldl_cons, List.foldl_nil]
  rw [nst_hst (by omega), nst_hst hr, fold_hst _ _ fun v hv => pInts_lt hl hp hv]
theorem leaf_plain {s : ByteArray} {w : Nat} (hs : s.size ≤ 16) (hw : w < 2147483647) : leafOf ⟨s, 1, (w : Int), []⟩ = (nst (nst (nst (hOf (nb s)) 1) w) 0 : Nat) := by
  rw [leaf_val, hOf_is hs]
  rw [show (1 : Int) = ((1 : Nat) : Int) from rfl, nst_hst (by omega), nst_hst hw, show (0 : Int) = ((0 : Nat) : Int) from rfl, nst_hst (by omega)]
theorem ql_nb {s : ByteArray} (h : QL s) : nb s ∈ lab4 := by
  unfold QL L4b at h
  simp only [List.mem_cons, List.not_mem_nil, or_false] at h
  rcases h with rfl | rfl | rfl | rfl | rfl | rfl | rfl | rfl | rfl <;> decide
theorem lab4_13 {l : List Nat} (h : l ∈ lab4) : l ∈ lab13 := List.mem_append_left _ h
theorem qa_nb {s : ByteArray} (h : QA s) (hl : isLab s = true) : nb s ∈ lab13 := by
  rcases h with h | h
  · exact lab4_13 (ql_nb h)
  · unfold QX LXb at h
    simp only [List.mem_cons, List.not_mem_nil, or_false] at h
    rcases h with rfl | rfl | rfl | rfl | rfl | rfl | rfl | rfl | rfl | rfl <;> first | decide | exact absurd hl (by decide)
theorem lab13_len {l : List Nat} (h : l ∈ lab13) : l.length ≤ 8 := by
  have : (lab13.all fun l => decide (l.length ≤ 8)) = true := by decide
  exact of_decide_eq_true (List.all_eq_true.1 this l h)
theorem lab4_len {l : List Nat} (h : l ∈ lab4) : l.length ≤ 5 := by
  have : (lab4.all fun l => decide (l.length ≤ 5)) = true := by decide
  exact of_decide_eq_true (List.all_eq_true.1 this l h)
/-- the root at which both leaves are the same is no small number -/
theorem small_root {s : ByteArray} {r : Nat} {p : List ByteArray} (hs : s.size ≤ 16) (hr : r < 5000) (hl : p.length ≤ 5) (hp : ∀ s ∈ p, s.size ≤ 16) (h2 : 2 ≤ (pInts (p.map nb)).length) (h31 : (pInts (p.map nb)).length < 32)
    (h5 : 5000 ≤ rootAt (hOf (nb s)) (pInts (p.map nb))) : leafOf ⟨s, 1, (r : Int) % 999999 + 1, []⟩ ≠ leafOf ⟨s, 3, (r : Int), p⟩ := by
  rw [show (r : Int) % 999999 + 1 = ((r + 1 : Nat) : Int) by omega, leaf_moved hs (by omega) hl hp, leaf_plain hs (by omega)]
  intro h
  have := root_is h2 h31 (by omega) (Int.ofNat.inj h).symm
  omega
theorem short_root {s : ByteArray} {p : List ByteArray} (hs : nb s ∈ lab13) (h : PS p) : 2 ≤ (pInts (p.map nb)).length ∧ (pInts (p.map nb)).length < 32 ∧ 5000 ≤ rootAt (hOf (nb s)) (pInts (p.map nb)) := by
  obtain ⟨h1, h3, hq⟩ := h
  match p, h1, h3, hq with
  | [a], _, _, hq =>
    have ha := ql_nb (hq a (by simp))
    refine ⟨by simp [pInts, bt], ?_, ?_⟩
    · have := lab4_len ha
      simp [pInts, bt]; omega
    · exact of_decide_eq_true (List.all_eq_true.1 (List.all_eq_true.1 short1 _ hs) _ ha)
  | [a, b], _, _, hq =>
    have ha := ql_nb (hq a (by simp))
    have hb := ql_nb (hq b (by simp))
    refine ⟨by simp [pInts, bt], ?_, ?_⟩
    · have := lab4_len ha; have := lab4_len hb
      simp [pInts, bt]; omega
    · exact of_decide_eq_true (List.all_eq_true.1 (List.all_eq_true.1 (List.all_eq_true.1 short2 _ hs) _ ha) _ hb)
  | [a, b, c], _, _, hq =>
    have ha := ql_nb (hq a (by simp))
    have hb := ql_nb (hq b (by simp))
    have hc := ql_nb (hq c (by simp))
    refine ⟨by simp [pInts, bt], ?_, ?_⟩
    · have := lab4_len ha; have := lab4_len hb; have := lab4_len hc
      simp [pInts, bt]; omega
    · exact of_decide_eq_true (List.all_eq_true.1 (List.all_eq_true.1 (List.all_eq_true.1 (List.all_eq_true.1 short3 _ hs) _ ha) _ hb) _ hc)
theorem long_root {s : ByteArray} {p : List ByteArray} (hs : nb s ∈ lab4) {d : List ByteArray} {x y : ByteArray} (e : p = d ++ [x, y]) (hd : PS d) (hx : QA x) (hy : QA y) (hp : isPth p = true) : 2 ≤ (pInts (p.map nb)).length ∧ (pInts (p.map nb)).length < 32 ∧ 5000 ≤ rootAt (hOf (nb s)) (pInts (p.map nb)) := by
  subst e
  have hlab := isPth_lab hp
  have h13x := qa_nb hx (hlab x (by simp))
  have h13y := qa_nb hy (hlab y (by simp))
  have hlen := (isPth_len hp).2
  have lx := lab13_len h13x
  have ly := lab13_len h13y
  obtain ⟨h1, h3, hq⟩ := hd
  match d, h1, h3, hq, hlen with
  | [a], _, _, hq, _ =>
    have ha := ql_nb (hq a (by simp))
    refine ⟨by simp [pInts, bt], ?_, ?_⟩
    · have := lab4_len ha
      simp [pInts, bt]; omega
    · exact long3_is (List.all_eq_true.1 all3 _ hs) ha h13x h13y
  | [a, b], _, _, hq, _ =>
    have ha := ql_nb (hq a (by simp))
    have hb := ql_nb (hq b (by simp))
    refine ⟨by simp [pInts, bt], ?_, ?_⟩
    · have := lab4_len ha; have := lab4_len hb
      simp [pInts, bt]; omega
    · exact long4_is (all4 _ hs) ha hb h13x h13y
  | [a, b, c], _, _, _, hl => simp at hl
theorem odd_root {s : ByteArray} {r : Nat} {p : List ByteArray} (hs : QL s) (hr : r = 999999 ∨ r = 1000000 ∨ r = 2147483646) (h : PS p) : leafOf ⟨s, 1, (r : Int) % 999999 + 1, []⟩ ≠ leafOf ⟨s, 3, (r : Int), p⟩ := by
  have h16 := ql_size hs
  have hp : ∀ s ∈ p, s.size ≤ 16 := fun x hx => ql_size (h.2.2 x hx)
  rw [show (r : Int) % 999999 + 1 = ((r % 999999 + 1 : Nat) : Int) by omega, leaf_moved h16 (by omega) (by have := h.2.1; omega) hp, leaf_plain h16 (by omega)]
  intro e
  have ho : odd (hOf (nb s)) r = true := by
    rcases hr with rfl | rfl | rfl
    · exact List.all_eq_true.1 odd_1 _ (ql_nb hs)
    · exact List.all_eq_true.1 odd_2 _ (ql_nb hs)
    · exact List.all_eq_true.1 odd_3 _ (ql_nb hs)
  refine odd_is ho (p := p.map nb) (fun a ha => ?_) (by have := h.1; rw [List.length_map]; omega) (by have := h.2.1; rw [List.length_map]; omega) (Int.ofNat.inj e).symm
  obtain ⟨x, hx, rfl⟩ := List.mem_map.1 ha
  exact ql_nb (h.2.2 x hx)
theorem inR_is {n a b : Int} (h : inR n a b = true) : a ≤ n ∧ n ≤ b := by
  unfold inR at h
  simpa using h
theorem path_sizes {p : List ByteArray} (h : isPth p = true) : p.length ≤ 5 ∧ ∀ s ∈ p, s.size ≤ 16 := by
  refine ⟨by have := (isPth_len h).2; omega, fun s hs => ?_⟩
  have := isPth_lab h s hs
  unfold isLab at this
  simp only [Bool.and_eq_true, decide_eq_true_eq] at this
  omega
theorem moved_root {s : ByteArray} {v : Int} {p : List ByteArray} (hs : nb s ∈ lab13) (h0 : 0 ≤ v) (h5 : v < 5000) (hp : isPth p = true) (hr : 2 ≤ (pInts (p.map nb)).length ∧ (pInts (p.map nb)).length < 32 ∧ 5000 ≤ rootAt (hOf (nb s)) (pInts (p.map nb))) : leafOf ⟨s, 1, v % 999999 + 1, []⟩ ≠ leafOf ⟨s, 3, v, p⟩ := by
  obtain ⟨r, rfl⟩ := Int.eq_ofNat_of_zero_le h0
  exact small_root (by have := lab13_len hs; rw [nb_len] at this; omega) (by omega) (path_sizes hp).1 (path_sizes hp).2 hr.1 hr.2.1 hr.2.2
theorem leaf_else {e : Entry} (he : isEntry e = true) (hl : EL e) : leafOf ⟨e.label, 1, e.value % 999999 + 1, []⟩ ≠ leafOf e := by
  obtain ⟨s, kd, v, p⟩ := e
  unfold isEntry at he
  simp only at he ⊢
  split at he
  · rename_i hk
    subst hk
    simp only [Bool.and_eq_true, decide_eq_true_eq] at he
    obtain ⟨⟨_, hv⟩, hp⟩ := he
    rw [List.length_eq_zero_iff.1 hp]
    have := inR_is hv
    exact leaf_other (.inl rfl) this.1 (fun _ => this.2) (by omega)
  · split at he
    · rename_i _ hk
      subst hk
      simp only [Bool.and_eq_true, decide_eq_true_eq] at he
      obtain ⟨⟨_, hv⟩, hp⟩ := he
      rw [List.length_eq_zero_iff.1 hp]
      have := inR_is hv
      exact leaf_other (.inr rfl) this.1 (fun h => absurd h (by decide)) this.2
    · split at he
      · rename_i _ _ hk
        subst hk
        simp only [Bool.and_eq_true] at he
        obtain ⟨⟨hlab, hv⟩, hp⟩ := he
        obtain ⟨v0, v1⟩ := inR_is hv
        rcases hl with ⟨⟨hs, hkd, hvv, hpp⟩, ⟨hq, h0⟩, hc⟩ | h
        · have hne : p ≠ [] := by
            intro e
            rw [e] at hp
            exact absurd hp (by decide)
          simp only [Entry.mk.injEq] at hc
          rcases hc with ⟨rfl, rfl, rfl, rfl⟩ | ⟨x, rfl, rfl, rfl, rfl⟩ | ⟨x, hx, rfl, rfl, rfl, rfl⟩ | ⟨x, hx, rfl, rfl, rfl, rfl⟩ | ⟨x, hx, rfl, rfl, rfl, rfl⟩
          · rcases h0 with ⟨_, h⟩ | ⟨_, _, _, h⟩ | ⟨_, h0, h5, h⟩
            · exact absurd h hne
            · exact absurd h hne
            · exact moved_root (lab4_13 (ql_nb hq)) h0 h5 hp (short_root (lab4_13 (ql_nb hq)) h)
          · rcases h0 with ⟨_, h⟩ | ⟨_, _, _, h⟩ | ⟨_, h0, h5, h⟩
            · exact absurd h hne
            · exact absurd h hne
            · exact moved_root (lab4_13 (ql_nb hq)) h0 h5 hp (short_root (lab4_13 (ql_nb hq)) h)
          · rcases h0 with ⟨_, h⟩ | ⟨_, _, _, h⟩ | ⟨_, h0, h5, h⟩
            · exact absurd h hne
            · exact absurd h hne
            · obtain ⟨r, rfl⟩ := Int.eq_ofNat_of_zero_le v0
              refine odd_root hq ?_ h
              unfold OddV at hx
              omega
          · rcases h0 with ⟨_, h⟩ | ⟨_, _, _, h⟩ | ⟨_, h0, h5, h⟩
            · exact absurd h hne
            · exact absurd h hne
            · exact moved_root (qa_nb hx hlab) h0 h5 hp (short_root (qa_nb hx hlab) h)
          · rcases h0 with ⟨h, _⟩ | ⟨h, _⟩ | ⟨_, h0, h5, _⟩
            · exact absurd (show (3 : Int) = 1 from h) (by decide)
            · exact absurd (show (3 : Int) = 2 from h) (by decide)
            · rcases hx with h | ⟨d, x, y, e, hd, hx, hy⟩ | h
              · exact moved_root (lab4_13 (ql_nb hq)) h0 h5 hp (short_root (lab4_13 (ql_nb hq)) h)
              · exact moved_root (lab4_13 (ql_nb hq)) h0 h5 hp (long_root (ql_nb hq) e hd hx hy hp)
              · exact absurd h hne
        · exact absurd (show (3 : Int) = 1 from h) (by decide)
      · exact absurd he (by decide)
/-- what the law asks of an entry that was found -/
theorem presence {l : List Entry} {s : ByteArray} {j : Nat} (hl : areE l = true) (hx : ∀ e ∈ l, EL e) (hf : fndE l s = j) :
    j < l.length ∧ isEntry (at0 l j) = true ∧ checkE (rootOf l) l.length (at0 l j) ⟨j, pathFor (leavesE l) j⟩ = true ∧ checkE (rootOf l) l.length ⟨s, 1, (at0 l j).value % 999999 + 1, []⟩ ⟨j, pathFor (leavesE l) j⟩ = false ∧
      checkE (rootOf l) (l.length + 1) (at0 l j) ⟨j, pathFor (leavesE l) j⟩ = false ∧ checkE (rootOf l + 1) l.length (at0 l j) ⟨j, pathFor (leavesE l) j⟩ = false ∧ (pathFor (leavesE l) j).length ≤ 4 := by
  rcases fndE_cases l s with ⟨h, _⟩ | ⟨j', hj, h, hs, _⟩
  · omega
  obtain rfl : j' = j := by omega
  have hn := areE_len hl
  have hok := areE_ok hl hj
  unfold okE at hok
  simp only [Bool.and_eq_true] at hok
  have hie := hok.1
  have hmem : at0 l j' ∈ l := by
    unfold at0
    simp only [List.getD, List.getElem?_eq_getElem hj, Option.getD_some]
    exact List.getElem_mem hj
  have hne := leaf_else hie (hx _ hmem)
  rw [hs] at hne
  have hlen : (leavesE l).length = l.length := leavesE_len l
  have hlf : (leavesE l).getD j' 0 = leafOf (at0 l j') := by
    unfold at0 leavesE
    simp only [List.getD, List.getElem?_map, List.getElem?_eq_getElem hj, Option.getD_some, Option.map_some]
  have hr : rootOf l = rootN l.length (topOf (leavesE l)) := rfl
  generalize at0 l j' = e at hie hne hlf
  generalize hL : leavesE l = L at hlen hlf hr
  have hj2 : j' < L.length := by omega
  have h1 : inR (l.length : Int) 1 12 = true := by unfold inR; simp; omega
  have h2 : inR (j' : Int) 0 ((l.length : Int) - 1) = true := by unfold inR; simp; omega
  have hp : pathFor L j' = pathW L j' := by unfold pathFor; rw [hlen, h2]; simp
  have ht : topOf L = topW L := by unfold topOf; rw [if_neg (by omega)]
  have e4 := tf_top L.length L j' (Nat.le_refl _) hj2
  rw [hlf] at e4
  obtain ⟨t, u, e1, e2, e3⟩ := tf_apart L.length L j' (leafOf e) (leafOf ⟨s, 1, e.value % 999999 + 1, []⟩) (Nat.le_refl _) hj2 (leaf_rg _) (leaf_rg _) fun h => hne h.symm
  rw [e4] at e1
  injection e1 with e1
  rw [hlen] at e4 e2
  rw [hp]
  have k1 : topFrom (leafOf e) j' l.length (pathW L j') = (topW L, true) := by
    unfold topFrom
    rw [h1, h2]
    simp only [Bool.and_self, if_true, Int.toNat_natCast, e4]
  have k2 : topFrom (leafOf ⟨s, 1, e.value % 999999 + 1, []⟩) j' l.length (pathW L j') = (u, true) := by
    unfold topFrom
    rw [h1, h2]
    simp only [Bool.and_self, if_true, Int.toNat_natCast, e2]
  have g1 : Rg (topW L) := top_rg (leaf_rg e) (i := j') (n := l.length) (p := pathW L j') _ (by simpa using e4)
  have g2 : Rg u := top_rg (leaf_rg ⟨s, 1, e.value % 999999 + 1, []⟩) (i := j') (n := l.length) (p := pathW L j') _ (by simpa using e2)
  refine ⟨hj, hie, ?_, ?_, ?_, ?_, path_short 4 L j' (by omega)⟩
  · unfold checkE
    simp only [k1, hie, hr, ht, Bool.and_self, decide_true]
  · unfold checkE
    simp only [k2, hr, ht]
    rw [decide_eq_false fun h => e3 (e1 ▸ (root_top g2 g1 h).symm)]
    simp
  · unfold checkE
    cases hb : (topFrom (leafOf e) j' (l.length + 1 : Int) (pathW L j')).2 with
    | false => simp
    | true =>
      have : (topFrom (leafOf e) j' (l.length + 1 : Int) (pathW L j')).1 = topW L := by
        unfold topFrom at hb ⊢
        split at hb
        · rename_i hin
          rw [if_pos hin]
          split at hb
          · rename_i t' ht'
            exact tf_more (l.length + 1) l.length (l.length + 1) j' (leafOf e) (topW L) t' (pathW L j') (Nat.le_refl _) hj (by omega) e4 (by
              have : ((l.length : Int) + 1).toNat = l.length + 1 := by omega
              rw [this] at ht'
              simpa using ht')
          · exact absurd hb (by decide)
        · exact absurd hb (by decide)
      simp only [this, hr, ht]
      rw [decide_eq_false fun h => absurd (root_count g1 (by omega) (by omega) (by omega) (by omega) h) (by omega)]
      simp
  · unfold checkE
    simp only [k1, hr, ht]
    rw [decide_eq_false (by omega)]
    simp
end Go.Proofs.YtomajneofdmnaaaGreat.M11Q
