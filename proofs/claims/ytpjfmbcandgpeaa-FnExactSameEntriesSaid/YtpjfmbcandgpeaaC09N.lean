/- Chapter 9: plain facts on lists in order by label; helpers of the walks. -/
import Derived.Test.YtpjfmbcandgpeaaC09K
import Derived.Test.YtpjfmbcandgpeaaC05I
namespace Go.Proofs.Ytpjfmbcandgpeaa.C09N
open Go.RowKit Mem MemS M04 M08 M09 M09F C09M Rep RepA RW R08 Q08
set_option linter.unusedVariables false
set_option maxRecDepth 100000
abbrev ltS (a b : ByteArray) : Prop := cmpS a b = -1
theorem at_get {m : List Entry} {i : Nat} (h : i < m.length) : at0 m i = m[i] := by simp [at0, List.getD, h]
theorem are_pair {m : List Entry} (h : areE m = true) : (labelsE m).Pairwise ltS := by
  unfold labelsE
  rw [List.pairwise_map, List.pairwise_iff_getElem]
  intro i j hi hj hij
  have := srt h hij hj
  rw [at_get hi, at_get hj] at this
  exact this
theorem are_all {m : List Entry} (h : areE m = true) : ∀ z ∈ m, isEntry z = true := by
  intro z hz
  obtain ⟨i, hi, rfl⟩ := mem_at hz
  have h1 := areE_ok h hi
  unfold okE at h1
  rw [Bool.and_eq_true] at h1
  exact h1.1
theorem are_of {m : List Entry} (h1 : m.length ≤ 12) (h2 : ∀ z ∈ m, isEntry z = true) (h3 : (labelsE m).Pairwise ltS) : areE m = true := by
  unfold labelsE at h3
  rw [List.pairwise_map, List.pairwise_iff_getElem] at h3
  rw [areE_all fun j hj => ?_]
  · exact decide_eq_true h1
  · unfold okE
    rw [h2 _ (at_mem hj), Bool.true_and]
    by_cases h0 : j = 0
    · simp [h0]
    · have h4 := h3 (j - 1) j (by omega) hj (by omega)
      rw [← at_get (by omega), ← at_get hj] at h4
      rw [decide_eq_true h4, Bool.or_true]
theorem pair_nd {m : List Entry} (h : (labelsE m).Pairwise ltS) : (labelsE m).Nodup := h.imp fun {a b} hab e => by
  subst e
  unfold ltS at hab
  rw [cmpS_self] at hab
  omega
theorem take_are {l : List Entry} {j : Nat} (hj : j ≤ l.length) (h12 : l.length ≤ 12) (h : ∀ k, k < j → okE l k = true) : areE (l.take j) = true := by
  have hl : (l.take j).length = j := by rw [List.length_take]; omega
  have ha : ∀ k, k < j → at0 (l.take j) k = at0 l k := fun k hk => by simp [at0, List.getD, List.getElem?_take_of_lt hk]
  rw [areE_all fun k hk => ?_]
  · exact decide_eq_true (by omega)
  · rw [hl] at hk
    have h1 := h k hk
    unfold okE at h1 ⊢
    rw [ha k hk, ha (k - 1) (by omega)]
    exact h1
theorem less_last {m : List Entry} {z : Entry} (h : areE (m ++ [z]) = true) : lessE m z.label = m := by
  unfold lessE
  rw [List.filter_eq_self]
  intro y hy
  rw [Bool.not_eq_true', decide_eq_false_iff_not]
  intro e
  have h1 := pair_nd (are_pair h)
  unfold labelsE at h1
  rw [List.map_append, List.nodup_append] at h1
  exact h1.2.2 _ (List.mem_map.2 ⟨y, hy, rfl⟩) _ (List.mem_map.2 ⟨z, by simp, rfl⟩) e
theorem less_none {l : List Entry} {s : ByteArray} (h : hasE l s = false) : lessE l s = l := by
  unfold lessE
  rw [List.filter_eq_self]
  intro y hy
  rw [Bool.not_eq_true', decide_eq_false_iff_not]
  intro e
  rw [hasE_iff.2 ⟨y, hy, e⟩] at h
  cases h
theorem fold_past {e : Entry} : ∀ (l out : List Entry), (∀ z ∈ l, cmpS z.label e.label ≠ 0) → l.foldl (putStep e) (out, true) = (out ++ l, true)
  | [], out, _ => by simp
  | z :: r, out, h => by
    rw [List.foldl_cons]
    have h0 : cmpS z.label e.label ≠ 0 := h z (by simp)
    have e1 : putStep e (out, true) z = (out ++ [z], true) := by
      unfold putStep
      simp [h0]
    rw [e1, fold_past r _ fun y hy => h y (by simp [hy])]
    simp
theorem fold_pair {e : Entry} : ∀ (l out : List Entry), (labelsE (out ++ l)).Pairwise ltS → (∀ z ∈ out, ltS z.label e.label) →
    (labelsE ((l.foldl (putStep e) (out, false)).1 ++ (if (l.foldl (putStep e) (out, false)).2 then [] else [e]))).Pairwise ltS
  | [], out, h, ho => by
    unfold labelsE at h ⊢
    simp only [List.foldl_nil, Bool.false_eq_true, if_false]
    rw [List.append_nil] at h
    rw [List.map_append, List.pairwise_append]
    refine ⟨h, by simp, fun a ha b hb => ?_⟩
    obtain ⟨y, hy, rfl⟩ := List.mem_map.1 ha
    rw [List.map_cons, List.map_nil, List.mem_singleton] at hb
    subst hb
    exact ho y hy
  | z :: r, out, h, ho => by
    rw [List.foldl_cons]
    have h' := h
    unfold labelsE at h'
    rw [List.map_append, List.map_cons, List.pairwise_append, List.pairwise_cons] at h'
    obtain ⟨p1, ⟨p2, p3⟩, p4⟩ := h'
    rcases cmpS_range z.label e.label with hc | hc | hc
    · have e1 : putStep e (out, false) z = (out ++ [z], false) := by
        unfold putStep
        simp [hc]
      rw [e1]
      refine fold_pair r (out ++ [z]) (by rw [List.append_assoc]; exact h) fun y hy => ?_
      rcases List.mem_append.1 hy with hy | hy
      · exact ho y hy
      · rw [List.mem_singleton.1 hy]
        exact hc
    · have e1 : putStep e (out, false) z = (out ++ [e], true) := by
        unfold putStep
        simp [hc]
      have hze : z.label = e.label := cmpS_zero hc
      rw [e1, fold_past r _ fun y hy h0 => ?_]
      · simp only [if_true, List.append_nil]
        unfold labelsE at h ⊢
        rw [List.map_append, List.map_cons, hze] at h
        rw [List.append_assoc, List.map_append, List.map_append]
        exact h
      · have := p2 _ (List.mem_map.2 ⟨y, hy, rfl⟩)
        rw [hze, ← cmpS_zero h0, ltS, cmpS_self] at this
        omega
    · have e1 : putStep e (out, false) z = (out ++ [e, z], true) := by
        unfold putStep
        simp [hc]
      have hez : ltS e.label z.label := by
        have := cmpS_neg e.label z.label
        unfold ltS
        omega
      rw [e1, fold_past r _ fun y hy h0 => ?_]
      · simp only [if_true, List.append_nil]
        unfold labelsE
        rw [List.append_assoc, List.map_append, List.pairwise_append]
        refine ⟨p1, ?_, fun a ha b hb => ?_⟩
        · show List.Pairwise ltS (e.label :: z.label :: r.map Entry.label)
          refine List.pairwise_cons.2 ⟨fun b hb => ?_, List.pairwise_cons.2 ⟨p2, p3⟩⟩
          rcases List.mem_cons.1 hb with rfl | hb
          · exact hez
          · exact cmpS_trans hez (p2 b hb)
        · have hb : b ∈ e.label :: z.label :: r.map Entry.label := hb
          rcases List.mem_cons.1 hb with rfl | hb
          · obtain ⟨y, hy, rfl⟩ := List.mem_map.1 ha
            exact ho y hy
          · exact p4 a ha b hb
      · have := cmpS_trans hez (p2 _ (List.mem_map.2 ⟨y, hy, rfl⟩))
        have h1 := cmpS_neg y.label e.label
        omega
theorem put_pair {e : Entry} {l : List Entry} (h : areE l = true) : (labelsE (putAll e l)).Pairwise ltS := fold_pair l [] (are_pair h) (by simp)
theorem put_size {e : Entry} {l : List Entry} (h : areE l = true) : (putAll e l).length + (if hasE l e.label then 1 else 0) = l.length + 1 := by
  have h1 := lessE_len e.label (pair_nd (are_pair h))
  rw [(putAll_perm e l).length_eq, List.length_append, List.length_singleton]
  omega
theorem put_no1 {l : List Entry} {x : Entry} (h : areE l = false) : putE l x = (l, false) := by
  unfold putE
  rw [h]
  rfl
theorem put_no2 {l : List Entry} {x : Entry} (h : isEntry x = false) : putE l x = (l, false) := by
  unfold putE
  rw [if_neg]
  intro h1
  rw [Bool.and_eq_true] at h1
  rw [are_all h1.2 x (put_mem x l)] at h
  cases h
theorem put_no3 {l : List Entry} {x : Entry} (h : areE l = true) (h1 : hasE l x.label = false) (h2 : ¬ l.length < 12) : putE l x = (l, false) := by
  unfold putE
  rw [if_neg]
  intro h3
  rw [Bool.and_eq_true] at h3
  have h4 := areE_len h3.2
  have h5 := put_size (e := x) h
  rw [h1] at h5
  simp at h5
  omega
theorem put_yes {l : List Entry} {x : Entry} (h : areE l = true) (hx : isEntry x = true) (hr : (hasE l x.label || decide (l.length < 12)) = true) : putE l x = (putAll x l, true) ∧ areE (putAll x l) = true := by
  have h1 : areE (putAll x l) = true := by
    refine are_of ?_ (fun z hz => ?_) (put_pair h)
    · have h5 := put_size (e := x) h
      have h6 := areE_len h
      rw [Bool.or_eq_true] at hr
      rcases hr with hr | hr
      · rw [hr] at h5
        simp at h5
        omega
      · have := of_decide_eq_true hr
        omega
    · have hz := (putAll_perm x l).mem_iff.1 hz
      rcases List.mem_append.1 hz with hz | hz
      · exact are_all h z (lessE_mem.1 hz).1
      · rw [List.mem_singleton.1 hz]
        exact hx
  refine ⟨?_, h1⟩
  unfold putE
  rw [h, h1]
  rfl
theorem fnd_has {l : List Entry} {s : ByteArray} : decide (0 ≤ fndE l s) = hasE l s := by
  rw [Bool.eq_iff_iff, decide_eq_true_iff, hasE_iff]
  rcases fndE_cases l s with ⟨h, hb⟩ | ⟨j, hj, h, he, hb⟩
  · rw [h]
    refine ⟨fun h => absurd h (by omega), fun ⟨z, hz, e⟩ => ?_⟩
    obtain ⟨i, hi, rfl⟩ := mem_at hz
    exact absurd e (hb i hi)
  · rw [h]
    exact ⟨fun _ => ⟨_, at_mem hj, he⟩, fun _ => by omega⟩
theorem drop_no1 {l : List Entry} {s : ByteArray} (h : areE l = false) : dropE l s = (l, false) := by
  unfold dropE
  rw [h]
  rfl
theorem drop_no2 {l : List Entry} {s : ByteArray} (h : hasE l s = false) : dropE l s = (l, false) := by
  unfold dropE
  rw [fnd_has, h, Bool.and_false]
  rfl
theorem drop_yes {l : List Entry} {s : ByteArray} (h : areE l = true) (h1 : hasE l s = true) : dropE l s = (lessE l s, true) ∧ (labelsE (lessE l s)).Pairwise ltS := by
  refine ⟨?_, ?_⟩
  · have h2 : dropE l s = (l.take (fndE l s).toNat ++ l.drop ((fndE l s).toNat + 1), true) := by
      unfold dropE
      rw [fnd_has, h, h1]
      rfl
    rw [h2]
    rcases fndE_cases l s with ⟨h3, hb⟩ | ⟨j, hj, h3, he, hb⟩
    · obtain ⟨z, hz, e⟩ := hasE_iff.1 h1
      obtain ⟨i, hi, rfl⟩ := mem_at hz
      exact absurd e (hb i hi)
    · rw [h3]
      have e1 : l = l.take j ++ at0 l j :: l.drop (j + 1) := by
        rw [at_get hj, ← List.drop_eq_getElem_cons hj, List.take_append_drop]
      have e2 : lessE (l.take j ++ at0 l j :: l.drop (j + 1)) s = l.take j ++ l.drop (j + 1) := by
        have hk : ∀ i, i < l.length → i ≠ j → (at0 l i).label ≠ s := fun i hi hne e => hne (uniq h hi hj (e.trans he.symm))
        have e3 : lessE (l.take j) s = l.take j := less_none (by
          cases hh : hasE (l.take j) s with
          | false => rfl
          | true =>
            obtain ⟨z, hz, e⟩ := hasE_iff.1 hh
            obtain ⟨i, hi, rfl⟩ := mem_at hz
            have hi' : i < j := by rw [List.length_take] at hi; omega
            rw [show at0 (l.take j) i = at0 l i from by simp [at0, List.getD, List.getElem?_take_of_lt hi']] at e
            exact absurd e (hk i (by omega) (by omega)))
        have e4 : lessE (l.drop (j + 1)) s = l.drop (j + 1) := less_none (by
          cases hh : hasE (l.drop (j + 1)) s with
          | false => rfl
          | true =>
            obtain ⟨z, hz, e⟩ := hasE_iff.1 hh
            obtain ⟨i, hi, rfl⟩ := mem_at hz
            rw [List.length_drop] at hi
            rw [show at0 (l.drop (j + 1)) i = at0 l (j + 1 + i) from by simp [at0, List.getD]] at e
            exact absurd e (hk _ (by omega) (by omega)))
        unfold lessE at e3 e4 ⊢
        rw [List.filter_append, List.filter_cons_of_neg (by simp [he]), e3, e4]
      rw [show ((j : Int)).toNat = j from rfl]
      congr 1
      rw [← e2, ← e1]
  · have h2 := are_pair h
    unfold labelsE lessE at *
    exact h2.sublist (List.filter_sublist.map _)
theorem lab_at {m : List Entry} {j : Nat} (h : j < m.length) : (labelsE m).getD j .empty = (at0 m j).label := by
  simp [labelsE, at0, List.getD, h]
theorem bx_set {w : World} {b : Nat} {vs : List Value} (h : Box w b vs) {j : Nat} (hj : j < vs.length) (v : Value) : Box (w.setCell ⟨b, j, none⟩ v) b (vs.set j v) := by
  have hu : vs[j]? = some (vs[j]'hj) := List.getElem?_eq_getElem hj
  refine ⟨fun {i u} hi => ?_, fun {i u} hi => ?_, by first | (simp; done) | (simp; exact h.lt)⟩
  · rw [List.getElem?_set] at hi
    by_cases e : j = i
    · subst e
      simp [hj] at hi
      subst hi
      exact World.cell?_setCell_same _ _ _ (h.cell hu)
    · rw [if_neg e] at hi
      rw [World.cell?_setCell_other _ _ _ _ (fun h9 => e (by injection h9))]
      exact h.cell hi
  · rw [World.frozen?_setCell]
    have hi' : i < (vs.set j v).length := (List.getElem?_eq_some_iff.1 hi).1
    exact h.warm (List.getElem?_eq_getElem (show i < vs.length by simpa using hi'))
theorem bx_store {w : World} {b : Nat} {vs : List Value} (h : Box w b vs) {p : Addr} (hp : p.block ≠ b) (v : Value) : Box (w.setCell p v) b vs := h.keep (Below.heap_setCell w p v b (fun e => hp e.symm))
theorem bl_store {B : Nat} {w w' : World} (h : Below B w w') {p : Addr} (hp : B ≤ p.block) (v : Value) : Below B w (w'.setCell p v) :=
  ⟨h.os, h.tape, h.output, by simpa [World.setCell] using h.size, fun i hi => (Below.heap_setCell w' p v i (by omega)).trans (h.block i hi)⟩
/-- 'make([]T, 0, n)' of structs -/
theorem wp_make0R {α : Type} {R : Rep α} {st : TypeId} (ti : Ti R st) {w : World} {ops : Array Oper} {rest : List Oper} {o : Oper} {a : Act} {Q : Exit → Act → World → Prop} (hgd : o.guard = none) (l c : Operand) (ho : o.op = Op.makeSlice st l c)
    {n : Nat} (hl : a.eval l = .int .i64 0) (hc : a.eval c = .int .i64 n) (hb : n ≤ 68719476736)
    (hK : ∀ w', Owns R w' w.heap.size w'.heap.size (some ⟨w.heap.size, 0, none⟩) 0 n [] → Below w.heap.size w w' → wpList Try.prog ops Q rest (a.put o.dst (.slice (some ⟨w.heap.size, 0, none⟩) 0 n)) w') :
    wpList Try.prog ops Q (o :: rest) a w := by
  obtain ⟨hu, hk, i, z2, h1, h2, hzc, h3, h4⟩ := ti
  have hbb : i.bytes * n ≤ 1024 * n := Nat.mul_le_mul_right _ h4
  refine wpList_make_own w hgd l c st ho w.heap.size R.ty i z2 R.n hu h1 h2 h3 .i64 .i64 n n hl hc rfl (by omega) (by simp only [maxLen]; omega) (Nat.le_refl _) fun w' hown hg => hK w' ⟨[w.heap.size], ⟨[], [], by simp, by simp [blk], ?_, .nil⟩, by simp, ?_⟩ ((Below.refl _ _).grown hg (Nat.le_refl _) (by simp))
  · exact row_base hown fun a e => Nat.zero_le _
  · intro b hb
    rw [List.mem_singleton.1 hb]
    exact ⟨Nat.le_refl _, (hown.lt w.heap.size (by rfl)).2⟩
theorem wp_make0S {w : World} {ops : Array Oper} {rest : List Oper} {o : Oper} {a : Act} {Q : Exit → Act → World → Prop} (hgd : o.guard = none) (l c : Operand) (ho : o.op = Op.makeSlice SST l c)
    {n : Nat} (hl : a.eval l = .int .i64 0) (hc : a.eval c = .int .i64 n) (hb : n ≤ 8796093022208)
    (hK : ∀ w', OwnS w' w.heap.size w'.heap.size (some ⟨w.heap.size, 0, none⟩) 0 n [] → Below w.heap.size w w' → wpList Try.prog ops Q rest (a.put o.dst (.slice (some ⟨w.heap.size, 0, none⟩) 0 n)) w') :
    wpList Try.prog ops Q (o :: rest) a w := by
  obtain ⟨i, h1, h2, h3, h4⟩ := info_str
  have hbb : i.bytes * n ≤ 16 * n := Nat.mul_le_mul_right _ h4
  refine wpList_make_own w hgd l c SST ho w.heap.size EST i (.string .empty) 1 under_str h1 h2 h3 .i64 .i64 n n hl hc rfl (by omega) (by simp only [maxLen]; omega) (Nat.le_refl _) fun w' hown hg => hK w' ⟨by simp, by simp, hown, fun a e => (hown.lt a.block (by injection e with e; subst e; rfl)).2⟩ ((Below.refl _ _).grown hg (Nat.le_refl _) (by simp))
end Go.Proofs.Ytpjfmbcandgpeaa.C09N
