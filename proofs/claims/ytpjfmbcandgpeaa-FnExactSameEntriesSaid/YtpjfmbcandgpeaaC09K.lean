/- Chapter 9: the keys of the program's map, sorted. -/
import Derived.Test.YtpjfmbcandgpeaaC09M
import Derived.Test.YtpjfmbcandgpeaaC04I
import Derived.Test.YtpjfmbcandgpeaaLays
import Derived.Shelf.SlIter.Collect
import Derived.Shelf.SlSortCmp.NoneTotal
import Derived.Sort.OwnSorted
namespace Go.Proofs.Ytpjfmbcandgpeaa.C09K
open Go.RowKit Go.Maps Go.Sort Go.Shelf Mem MemS M04 M08 M09 M09F C04I C09M Rep RepA RW R08 Q08
set_option linter.unusedVariables false
set_option maxRecDepth 100000
abbrev cfB : List UInt8 → List UInt8 → Int := Lib.compareBytes
theorem cfB_neg (x y : List UInt8) : cfB x y = - cfB y x := cmpS_neg ⟨⟨x⟩⟩ ⟨⟨y⟩⟩
theorem cfB_range (x y : List UInt8) : cfB x y = -1 ∨ cfB x y = 0 ∨ cfB x y = 1 := cmpS_range ⟨⟨x⟩⟩ ⟨⟨y⟩⟩
theorem cfB_zero {x y : List UInt8} (h : cfB x y = 0) : x = y := cmp_zero _ _ h
theorem cfB_self (x : List UInt8) : cfB x x = 0 := cmp_self x
theorem ltB (x y : List UInt8) : ltOf cfB x y = true ↔ cfB x y = -1 := by
  unfold ltOf
  rw [decide_eq_true_iff]
  rcases cfB_range x y with h | h | h <;> omega
theorem ltB' (x y : List UInt8) : ltOf cfB x y = false ↔ cfB y x = -1 ∨ x = y := by
  have h0 := cfB_neg x y
  rw [← Bool.not_eq_true, ltB]
  constructor
  · intro h
    rcases cfB_range x y with h1 | h1 | h1
    · exact absurd h1 h
    · exact .inr (cfB_zero h1)
    · exact .inl (by omega)
  · rintro (h | rfl)
    · omega
    · rw [cfB_self]
      omega
theorem swoB : SWO (ltOf cfB) where
  irrefl x := (ltB' x x).2 (.inr rfl)
  trans x y z h1 h2 := (ltB x z).2 (cmpL_trans ((ltB x y).1 h1) ((ltB y z).1 h2))
  ntrans x y z h1 h2 := by
    rcases (ltB' x y).1 h1 with h1 | rfl
    · rcases (ltB' y z).1 h2 with h2 | rfl
      · exact (ltB' x z).2 (.inl (cmpL_trans h2 h1))
      · exact (ltB' x y).2 (.inl h1)
    · exact h2
theorem totB (x y : List UInt8) (h1 : ltOf cfB x y = false) (h2 : ltOf cfB y x = false) : x = y := by
  rcases (ltB' x y).1 h1 with h1 | h1
  · rcases (ltB' y x).1 h2 with h2 | h2
    · have := cfB_neg x y
      omega
    · exact h2.symm
  · exact h1
theorem sorted_is {ss ts : List (List UInt8)} (hp : ss.Perm ts) (hs : ts.Pairwise fun a b => cfB a b = -1) : ss.mergeSort (fun x y => !ltOf cfB y x) = ts := by
  have tr : ∀ a b c : List UInt8, (!ltOf cfB b a) = true → (!ltOf cfB c b) = true → (!ltOf cfB c a) = true := fun a b c h1 h2 => by
    rw [Bool.not_eq_true'] at *
    exact swoB.ntrans c b a h2 h1
  have to : ∀ a b : List UInt8, (!ltOf cfB b a || !ltOf cfB a b) = true := fun a b => by
    rw [Bool.or_eq_true, Bool.not_eq_true', Bool.not_eq_true', ltB', ltB']
    rcases cfB_range a b with h | h | h
    · exact .inl (.inl h)
    · exact .inl (.inr (cfB_zero h).symm)
    · exact .inr (.inl (by have := cfB_neg a b; omega))
  refine List.Perm.eq_of_pairwise (le := fun a b => (!ltOf cfB b a) = true) (fun a b _ _ h1 h2 => ?_) (List.pairwise_mergeSort tr to ss) (hs.imp fun {a b} h => ?_) ((List.mergeSort_perm ss _).trans hp)
  · rw [Bool.not_eq_true'] at h1 h2
    exact (totB b a h1 h2).symm
  · rw [Bool.not_eq_true']
    exact (ltB' b a).2 (.inl h)
theorem cmp_calls (blk off size : Nat) (w : World) : CmpLays1 Try.prog 74 #[] encStr cfB blk off size w := fun m os dk hs x y =>
  (iCompareLabels_any ⟨⟨x⟩⟩ ⟨⟨y⟩⟩ _).mono fun e w' h => ⟨h.1, 0, #[], by rw [grow_empty, ← h.2]; rfl⟩
theorem iSortedFunc_any (Bm b base : Nat) (m : List Entry) (w : World) (hc : w.cell? ⟨Bm, 0, none⟩ = some (.map (some b))) (hBm : Bm < w.heap.size) (h : MapE w base b m) (hs : m.Pairwise fun x y => cmpS x.label y.label = -1) (hm : m.length ≤ 1048576) :
    Calls Try.prog 77 #[.func (.func 100) #[] #[.pointer (some ⟨Bm, 0, none⟩)], .func (.func 74) #[] #[]] w fun e w' =>
      ∃ A c, e = .returned (.slice A m.length c) ∧ OwnS w' w.heap.size w'.heap.size A m.length c (labelsE m) ∧ Below w.heap.size w w' := by
  obtain ⟨D, hown, hsz, hperm⟩ := h.keys
  have hseq : SeqGives Fence.wide 2 Try.prog 100 #[.pointer (some ⟨Bm, 0, none⟩)] encStr (fun ss => ss.Perm (strKeys D)) (Maps.size D) w :=
    AnyZ.keys_gives (ρ := Try.keysA_ren) { Try.keysA with } Fence.wide _ trivial rfl (by omega) Bm b m.length D w hBm hc hown
  have cC := AnyZ.collect_in Try.collA Fence.wide 4 trivial trivial rfl (by omega) 100 #[.pointer (some ⟨Bm, 0, none⟩)] trivial (enters_of Try.func100 (by kernel_rfl) rfl) _ (Maps.size D) (by rw [hsz]; unfold maxLen; omega) (by rw [hsz]; omega) w hseq
  have cC : Calls Try.prog 98 _ w _ := (callsIn_wide (n := 4)).1 cC
  have hts : ((labelsE m).map fun s => s.data.toList).Pairwise fun a b => cfB a b = -1 := List.pairwise_map.2 (List.pairwise_map.2 (hs.imp fun {x y} h => h))
  have hwf : ∀ z ∈ labelsE m, InS z := fun z hz => by
    obtain ⟨y, hy, rfl⟩ := List.mem_map.1 hz
    exact h.sz y hy
  have HC := Lib.hid cC
  have HT := Lib.hid hts
  have HP := Lib.hid hperm
  have HW := Lib.hid hwf
  have HM := Lib.hid hm
  clear cC hseq hown hsz h hs hts hperm hwf hm hc
  go_enter Try.func77, Try.ntmps77
  go_wp2_with fail
  refine HC.out.mono ?_
  rintro e w1 ⟨v, ss, rfl, hS, hrow, hnil, hb⟩
  have hll : ss.length = m.length := by
    have h1 := (hS.trans HP.out.symm).length_eq
    rw [List.length_map] at h1
    unfold labelsE at h1
    rw [List.length_map] at h1
    exact h1
  have hst := sorted_is (hS.trans HP.out.symm) HT.out
  rcases hrow.2 with ⟨rfl, _⟩ | ⟨g, cap, cur, rfl, hbase, hbk, h1, h2, h3, h4⟩
  · have hss := hnil.1 rfl
    subst hss
    have hm0 : m = [] := List.length_eq_zero_iff.1 hll.symm
    subst hm0
    have HN := Lib.hid (AnyF.slices_SortFunc_none (P := Try.prog) (ρ := Try.sortF_ren) { Try.sortF with } none 0 (.func (.func 74) #[] #[]) w1)
    have HB := Lib.hid hb
    have HR := Lib.hid hrow
    clear hS hrow hnil hb hll hst
    go_wp2_with fail
    refine HN.out.mono ?_
    rintro e w2 ⟨rfl, rfl⟩
    go_wp2
    go_ret
    exact ⟨none, 0, rfl, ⟨rfl, by simp [labelsE], World.ownsRow_nil _ _ _ _, by simp⟩, HB.out⟩
  · have hlt : g < w1.heap.size := (Array.getElem?_eq_some_iff.1 hbk).1
    have cN : Calls Try.prog 99 #[.slice (some ⟨g, 0, none⟩) m.length cap, .func (.func 74) #[] #[]] w1 fun e w' => e = .returned (.tuple #[]) ∧ ∃ n os, w' = grow (putRow encStr (Sort.ahead w1 n) g 0 ((labelsE m).map fun s => s.data.toList).toArray) os := by
      have h5 := Any.slices_SortFunc_total Try.sortF encStr (fun _ => rfl) cfB swoB 74 #[] g 0 cap ss.toArray w1 (enters_of Try.func74 (by kernel_rfl) rfl) (cmp_calls g 0 _ w1) (holds_of_block hbk (by simpa using h4)) hlt (by have := HM.out; simp; omega) totB
      rw [show ss.toArray.size = m.length from by simp [hll], show ss.toArray.toList = ss from by simp, hst] at h5
      exact h5
    have HN := Lib.hid cN
    have HB := Lib.hid hb
    have HK := Lib.hid hbk
    have HL := Lib.hid hll
    have HG := Lib.hid hbase
    clear hS hrow hnil hb hst hbk hbase h4 cN
    go_wp2_with fail
    refine HN.out.mono ?_
    rintro e w2 ⟨rfl, n, os, rfl⟩
    have HR := Lib.hid (ownsRow_sorted (n := n) (os := os) (ts := (labelsE m).map fun s => s.data.toList) (by rw [HL.out]; simp [labelsE]) HG.out HK.out h1 h2 h3)
    have HB2 := Lib.hid (HB.out.grown (grownBy_sorted (n := n) (os := os) ((labelsE m).map fun s => s.data.toList).toArray) HB.out.size fun k hk => by
      cases hk
      exact HG.out)
    have HS2 := Lib.hid (show g < (grow (putRow encStr (Sort.ahead w1 n) g 0 ((labelsE m).map fun s => s.data.toList).toArray) os).heap.size from Nat.lt_of_lt_of_le hlt (grownBy_sorted _).size)
    generalize grow (putRow encStr (Sort.ahead w1 n) g 0 ((labelsE m).map fun s => s.data.toList).toArray) os = w3 at HR HB2 HS2
    go_wp2
    go_ret
    refine ⟨_, cap, rfl, ⟨by simp [labelsE], HW.out, ?_, ?_⟩, HB2.out⟩
    · have h5 := HR.out
      rw [HL.out, List.map_map] at h5
      exact h5
    · intro a e
      injection e with e
      subst e
      exact HS2.out
end Go.Proofs.Ytpjfmbcandgpeaa.C09K
