/- Chapter 9: the program's map of entries by labels: what it holds, what its operations do. -/
import Derived.Test.YtpjfmbcandgpeaaQ08
import Derived.Test.YtpjfmbcandgpeaaM09F
import Derived.Maps.OwnSet
import Derived.Maps.OwnOps
import Derived.Sort.KeysCollected
namespace Go.Proofs.Ytpjfmbcandgpeaa.C09M
open Go.RowKit Go.Maps Mem MemS M04 M08 M09 M09F Rep RepA RW R08 Q08
set_option linter.unusedVariables false
set_option maxRecDepth 100000
/-- a value of the map reads as itself -/
def Rv (v : Value) : Option (DataW Value × List MemPlace) := some (.held v, [])
abbrev ky (s : ByteArray) : Lit := .string s.data.toList
abbrev MT : TypeId := 61
theorem law : Keyed Try.prog 9 := string_keyed (by kernel_rfl)
theorem under_mt : Try.prog.underlying MT = some (.map 9 27) := by kernel_rfl
theorem zeroE (w : World) : (zeroValue 27).run Try.prog w = .ok (.agg #[.string ⟨#[]⟩, .int .i64 0, .int .i64 0, .slice none 0 0]) w := by kernel_rfl
theorem key_of {s : ByteArray} (h : InS s) : keyOf Try.prog 9 (.string s) = some (ky s) := WideMaps.keyOf_string_mk (by kernel_rfl) h
theorem ky_inj {a b : ByteArray} (h : ky a = ky b) : a = b := by
  injection h with h
  exact data_ext h
def hasE (l : List Entry) (s : ByteArray) : Bool := l.any fun z => decide (z.label = s)
def lessE (l : List Entry) (s : ByteArray) : List Entry := l.filter fun z => !decide (z.label = s)
theorem hasE_iff {l : List Entry} {s : ByteArray} : hasE l s = true ↔ ∃ z ∈ l, z.label = s := by
  unfold hasE
  rw [List.any_eq_true]
  constructor
  · rintro ⟨z, hz, h⟩
    exact ⟨z, hz, of_decide_eq_true h⟩
  · rintro ⟨z, hz, h⟩
    exact ⟨z, hz, decide_eq_true h⟩
theorem lessE_mem {l : List Entry} {s : ByteArray} {z : Entry} : z ∈ lessE l s ↔ z ∈ l ∧ z.label ≠ s := by
  unfold lessE
  rw [List.mem_filter]
  simp
theorem hasE_perm {l l' : List Entry} (h : l.Perm l') (s : ByteArray) : hasE l s = hasE l' s := by
  rw [Bool.eq_iff_iff, hasE_iff, hasE_iff]
  exact ⟨fun ⟨z, hz, e⟩ => ⟨z, h.mem_iff.1 hz, e⟩, fun ⟨z, hz, e⟩ => ⟨z, h.mem_iff.2 hz, e⟩⟩
theorem lessE_len : ∀ {l : List Entry} (s : ByteArray), (labelsE l).Nodup → (lessE l s).length + (if hasE l s then 1 else 0) = l.length
  | [], s, _ => rfl
  | z :: r, s, h => by
    unfold labelsE at h
    rw [List.map_cons, List.nodup_cons] at h
    have ih := lessE_len (l := r) s h.2
    by_cases hz : z.label = s
    · have hr : hasE r s = false := by
        cases hh : hasE r s with
        | false => rfl
        | true =>
          obtain ⟨y, hy, e⟩ := hasE_iff.1 hh
          exact absurd (List.mem_map.2 ⟨y, hy, e.trans hz.symm⟩) h.1
      rw [hr] at ih
      have h1 : hasE (z :: r) s = true := hasE_iff.2 ⟨z, by simp, hz⟩
      have h2 : lessE (z :: r) s = lessE r s := by unfold lessE; rw [List.filter_cons_of_neg (by simp [hz])]
      rw [h1, h2]
      simp at ih ⊢
      omega
    · have h1 : hasE (z :: r) s = hasE r s := by unfold hasE; rw [List.any_cons, decide_eq_false hz, Bool.false_or]
      have h2 : lessE (z :: r) s = z :: lessE r s := by unfold lessE; rw [List.filter_cons_of_pos (by simp [hz])]
      rw [h1, h2, List.length_cons, List.length_cons]
      omega
theorem less_nd {l : List Entry} (s : ByteArray) (h : (labelsE l).Nodup) : (labelsE (lessE l s)).Nodup := by
  unfold labelsE lessE at *
  exact h.sublist (List.filter_sublist.map _)
theorem put_nd {l : List Entry} (z : Entry) (h : (labelsE l).Nodup) : (labelsE (lessE l z.label ++ [z])).Nodup := by
  have h1 := less_nd z.label h
  unfold labelsE at h1 ⊢
  rw [List.map_append, List.map_cons, List.map_nil, List.nodup_append]
  refine ⟨h1, by simp, fun a ha b hb => ?_⟩
  rw [List.mem_singleton] at hb
  subst hb
  obtain ⟨y, hy, rfl⟩ := List.mem_map.1 ha
  exact (lessE_mem.1 hy).2
/-- block b is a map that holds these entries by their labels; what they lead to lies below block 'base' -/
structure MapE (w : World) (base b : Nat) (l : List Entry) : Prop where
  ge : base ≤ b
  nd : (labelsE l).Nodup
  sz : ∀ z ∈ l, InS z.label
  ex : ∃ D : DataW Value, w.ownsMap Try.prog 9 Rv b l.length D ∧ Maps.size D = l.length ∧ (∀ s, Maps.has D (ky s) = hasE l s) ∧ ∀ z ∈ l, ∃ cs, REntry.rd w (Lt base) cs z ∧ ∀ d, D.atKey (ky z.label) d = .held (.agg cs.toArray)
section
variable {w w' : World} {base b : Nat} {l l' : List Entry}
theorem owns_keep {n : Nat} {D : DataW Value} (h : w.ownsMap Try.prog 9 Rv b n D) (hb : w'.heap[b]? = w.heap[b]?) : w'.ownsMap Try.prog 9 Rv b n D := by
  obtain ⟨es, clock, h1, h2⟩ := h
  exact ⟨es, clock, hb.trans h1, h2⟩
theorem owns_tight {n : Nat} {D : DataW Value} (h : w.ownsMap Try.prog 9 Rv b n D) : w.ownsMap Try.prog 9 Rv b (Maps.size D) D := by
  obtain ⟨es, clock, h1, h2, h3, rfl⟩ := h
  exact ⟨es, clock, h1, h2, by simp [Maps.size, length_sorted], rfl⟩
theorem MapE.lt (h : MapE w base b l) : b < w.heap.size := by
  obtain ⟨D, hown, -⟩ := h.ex
  exact hown.lt
theorem MapE.keep (h : MapE w base b l) (hb : w'.heap[b]? = w.heap[b]?) (hr : ∀ i, i < base → w'.heap[i]? = w.heap[i]?) : MapE w' base b l := by
  obtain ⟨D, h1, h2, h3, h4⟩ := h.ex
  refine ⟨h.ge, h.nd, h.sz, D, owns_keep h1 hb, h2, h3, fun z hz => ?_⟩
  obtain ⟨cs, h5, h6⟩ := h4 z hz
  exact ⟨cs, REntry.keep h5 fun i hi => hr i hi, h6⟩
theorem MapE.below {B : Nat} (h : MapE w base b l) (hb : Below B w w') (hB : b < B) : MapE w' base b l := h.keep (hb.block b hB) fun i hi => hb.block i (by have := h.ge; omega)
theorem MapE.alloc (h : MapE w base b l) (o : Obj) : MapE (w.alloc o) base b l := h.keep (Below.heap_alloc w o b h.lt) fun i hi => Below.heap_alloc w o i (by have := h.ge; have := h.lt; omega)
theorem MapE.store (h : MapE w base b l) {p : Addr} (hp : b < p.block) (v : Value) : MapE (w.setCell p v) base b l := h.keep (Below.heap_setCell w p v b (by omega)) fun i hi => Below.heap_setCell w p v i (by have := h.ge; omega)
theorem MapE.drew (h : MapE w base b l) : MapE w.drew base b l := h.keep rfl fun i hi => rfl
theorem MapE.perm (h : MapE w base b l) (hp : l.Perm l') : MapE w base b l' := by
  obtain ⟨D, h1, h2, h3, h4⟩ := h.ex
  refine ⟨h.ge, (hp.map Entry.label).nodup_iff.1 h.nd, fun z hz => h.sz z (hp.mem_iff.2 hz), D, by rw [← hp.length_eq]; exact h1, by rw [← hp.length_eq]; exact h2, fun s => (h3 s).trans (hasE_perm hp s), fun z hz => h4 z (hp.mem_iff.2 hz)⟩
theorem MapE.mono {base' : Nat} (h : MapE w base b l) (h1 : base ≤ base') (h2 : base' ≤ b) : MapE w base' b l := by
  obtain ⟨D, h3, h4, h5, h6⟩ := h.ex
  exact ⟨h2, h.nd, h.sz, D, h3, h4, h5, fun z hz => by
    obtain ⟨cs, h7, h8⟩ := h6 z hz
    exact ⟨cs, REntry.more h7 fun i hi => Nat.lt_of_lt_of_le hi h1, h8⟩⟩
/-- 'contents{}' -/
theorem MapE.made (hb : base ≤ w.heap.size) : MapE (w.alloc (.map #[] 0)) base w.heap.size [] :=
  ⟨hb, by simp [labelsE], by simp, .map [], World.ownsMap_made _ _ _ _, rfl, fun s => rfl, by simp⟩
theorem turned_keep (h : w.mapTurned w' b) {i : Nat} (hi : i < b) (hlt : i < w.heap.size) : w'.heap[i]? = w.heap[i]? := h.grown.block i hlt (by intro e; injection e with e; omega)
/-- 'm[k] = e' -/
theorem MapE.put (h : MapE w base b l) {z : Entry} {cs : List Value} (hrd : REntry.rd w (Lt base) cs z) (hz : InS z.label) (hn : l.length < maxLen) :
    ∃ w', (Instr.mapUpdate MT (.map (some b)) (.string z.label) (.agg cs.toArray)).run Try.prog w = .ok () w' ∧ MapE w' base b (lessE l z.label ++ [z]) ∧ w.mapTurned w' b := by
  have hlt := h.lt
  obtain ⟨D, h1, h2, h3, h4⟩ := h.ex
  obtain ⟨w', hrun, r1, r2⟩ := h1.store law under_mt hn (key_of hz) (show Rv (.agg cs.toArray) = some (.held (.agg cs.toArray), []) from rfl)
  have ht := h1.tidy law
  have hs : Maps.size (D.put (ky z.label) (.held (.agg cs.toArray))) = (lessE l z.label ++ [z]).length := by
    rw [size_put ht, h3, h2, List.length_append, List.length_singleton]
    have := lessE_len z.label h.nd
    generalize hasE l z.label = q at this ⊢
    cases q <;> simp at this ⊢ <;> omega
  have hk : ∀ i, i < base → w'.heap[i]? = w.heap[i]? := fun i hi => turned_keep r2 (by have := h.ge; omega) (by have := h.ge; omega)
  refine ⟨w', hrun, ⟨h.ge, put_nd z h.nd, fun y hy => ?_, D.put (ky z.label) (.held (.agg cs.toArray)), by rw [← hs]; exact owns_tight r1, hs, fun s => ?_, fun y hy => ?_⟩, r2⟩
  · rcases List.mem_append.1 hy with hy | hy
    · exact h.sz y (lessE_mem.1 hy).1
    · rw [List.mem_singleton.1 hy]
      exact hz
  · by_cases he : s = z.label
    · subst he
      rw [has_put_same ht.isMap (show WideAt.IsKeyLit (ky z.label) from trivial)]
      exact (hasE_iff.2 ⟨z, by simp, rfl⟩).symm
    · rw [has_put_other (fun e => he (ky_inj e)), h3, Bool.eq_iff_iff, hasE_iff, hasE_iff]
      constructor
      · rintro ⟨y, hy, rfl⟩
        exact ⟨y, List.mem_append.2 (.inl (lessE_mem.2 ⟨hy, he⟩)), rfl⟩
      · rintro ⟨y, hy, rfl⟩
        rcases List.mem_append.1 hy with hy | hy
        · exact ⟨y, (lessE_mem.1 hy).1, rfl⟩
        · rw [List.mem_singleton.1 hy] at he
          exact absurd rfl he
  · rcases List.mem_append.1 hy with hy | hy
    · obtain ⟨cs', h5, h6⟩ := h4 y (lessE_mem.1 hy).1
      exact ⟨cs', REntry.keep h5 fun i hi => hk i hi, fun d => by rw [atKey_put_other (fun e => (lessE_mem.1 hy).2 (ky_inj e))]; exact h6 d⟩
    · rw [List.mem_singleton.1 hy]
      exact ⟨cs, REntry.keep hrd fun i hi => hk i hi, fun d => atKey_put_same ht.isMap (show WideAt.IsKeyLit (ky z.label) from trivial) _ _⟩
/-- 'delete(m, k)' -/
theorem MapE.cut (h : MapE w base b l) {s : ByteArray} (hs0 : InS s) (ty : TypeId) :
    ∃ w', (Builtin.delete_ #[MT, 9] ty #[.map (some b), .string s]).run Try.prog w = .ok (.tuple #[]) w' ∧ MapE w' base b (lessE l s) ∧ w.mapTurned w' b := by
  have hlt := h.lt
  obtain ⟨D, h1, h2, h3, h4⟩ := h.ex
  obtain ⟨w', hrun, r1, r2⟩ := h1.drop law under_mt (key_of hs0) ty
  have ht := h1.tidy law
  have hs : Maps.size (D.del (ky s)) = (lessE l s).length := by
    have e := size_del (k := ky s) ht
    have := lessE_len s h.nd
    rw [h3, h2] at e
    omega
  have hk : ∀ i, i < base → w'.heap[i]? = w.heap[i]? := fun i hi => turned_keep r2 (by have := h.ge; omega) (by have := h.ge; omega)
  refine ⟨w', hrun, ⟨h.ge, less_nd s h.nd, fun y hy => h.sz y (lessE_mem.1 hy).1, D.del (ky s), by rw [← hs]; exact owns_tight r1, hs, fun s' => ?_, fun y hy => ?_⟩, r2⟩
  · by_cases he : s' = s
    · subst he
      rw [has_del_same]
      cases hh : hasE (lessE l s') s' with
      | false => rfl
      | true =>
        obtain ⟨y, hy, e⟩ := hasE_iff.1 hh
        exact absurd e (lessE_mem.1 hy).2
    · rw [has_del_other (fun e => he (ky_inj e)), h3, Bool.eq_iff_iff, hasE_iff, hasE_iff]
      constructor
      · rintro ⟨y, hy, rfl⟩
        exact ⟨y, lessE_mem.2 ⟨hy, he⟩, rfl⟩
      · rintro ⟨y, hy, rfl⟩
        exact ⟨y, (lessE_mem.1 hy).1, rfl⟩
  · obtain ⟨cs', h5, h6⟩ := h4 y (lessE_mem.1 hy).1
    exact ⟨cs', REntry.keep h5 fun i hi => hk i hi, fun d => by rw [atKey_del_other (fun e => (lessE_mem.1 hy).2 (ky_inj e))]; exact h6 d⟩
/-- '_, found := m[k]' -/
theorem MapE.ask (h : MapE w base b l) {s : ByteArray} (hs : InS s) :
    ∃ (x : ByteArray) (i j : Int) (A : Option Addr) (n c : Nat), (Instr.lookup MT (.map (some b)) (.string s) true).run Try.prog w = .ok (.tuple #[.agg #[.string x, .int .i64 i, .int .i64 j, .slice A n c], .bool (hasE l s)]) w := by
  obtain ⟨D, h1, h2, h3, h4⟩ := h.ex
  obtain ⟨v, ps, hrun, hv⟩ := h1.look_ok law under_mt (zeroE w) (show Rv _ = some (.held _, []) from rfl) (key_of hs)
  rw [h3 s] at hrun
  unfold Rv at hv
  injection hv with hv
  injection hv with hv _
  cases hh : hasE l s with
  | false =>
    rw [hh] at hrun
    rw [atKey_of_not_has (by rw [h3]; exact hh)] at hv
    injection hv with hv
    subst hv
    exact ⟨_, _, _, _, _, _, hrun⟩
  | true =>
    rw [hh] at hrun
    obtain ⟨z, hz, rfl⟩ := hasE_iff.1 hh
    obtain ⟨cs, h5, h6⟩ := h4 z hz
    rw [h6] at hv
    injection hv with hv
    obtain ⟨A, n, c, rfl, -⟩ := REntry_rd.1 h5
    subst hv
    exact ⟨_, _, _, _, _, _, hrun⟩
/-- 'm[k]' of a label that is there -/
theorem MapE.get (h : MapE w base b l) {z : Entry} (hz : z ∈ l) :
    ∃ cs, (Instr.lookup MT (.map (some b)) (.string z.label) false).run Try.prog w = .ok (.agg cs.toArray) w ∧ REntry.rd w (Lt base) cs z := by
  obtain ⟨D, h1, h2, h3, h4⟩ := h.ex
  obtain ⟨v, ps, hrun, hv⟩ := h1.lookup law under_mt (zeroE w) (show Rv _ = some (.held _, []) from rfl) (key_of (h.sz z hz))
  obtain ⟨cs, h5, h6⟩ := h4 z hz
  unfold Rv at hv
  injection hv with hv
  injection hv with hv _
  rw [h6] at hv
  injection hv with hv
  subst hv
  exact ⟨cs, hrun, h5⟩
/-- 'len(m)' -/
theorem MapE.len (h : MapE w base b l) (ty : TypeId) : (Builtin.len_ #[MT] ty #[.map (some b)]).run Try.prog w = .ok (.int .i64 l.length) w := by
  obtain ⟨D, h1, h2, h3, h4⟩ := h.ex
  have := h1.len under_mt ty
  rw [h2] at this
  exact this
/-- its keys -/
theorem MapE.keys (h : MapE w base b l) : ∃ D : DataW Value, w.ownsMap Try.prog 9 Rv b l.length D ∧ Maps.size D = l.length ∧ ((labelsE l).map fun s => s.data.toList).Perm (strKeys D) := by
  obtain ⟨D, h1, h2, h3, h4⟩ := h.ex
  refine ⟨D, h1, h2, ?_⟩
  obtain ⟨es, rfl, hp⟩ := h1.tidy law
  obtain ⟨es', e, hk⟩ := h1.keysOf
  injection e with e
  subst e
  refine perm_strKeys hp (fun p hp' => ?_) ?_ fun x => ?_
  · obtain ⟨v, hv⟩ := hk p hp'
    obtain ⟨x, _, hx, _⟩ := Maps.keyOf_str (by kernel_rfl) hv
    exact ⟨x, hx⟩
  · exact List.pairwise_map.2 (h.nd.imp fun {a b} hne e => hne (data_ext e))
  · have h3 := h3 ⟨⟨x⟩⟩
    rw [show ky ⟨⟨x⟩⟩ = .string x from rfl] at h3
    rw [h3, hasE_iff, List.mem_map]
    constructor
    · rintro ⟨s, hs, rfl⟩
      obtain ⟨z, hz, rfl⟩ := List.mem_map.1 hs
      exact ⟨z, hz, rfl⟩
    · rintro ⟨z, hz, e⟩
      exact ⟨z.label, List.mem_map.2 ⟨z, hz, rfl⟩, by rw [e]⟩
/-- a store into the map, where the walk meets it -/
theorem wp_put {ops : Array Oper} {rest : List Oper} {o : Oper} {a : Act} {Q : Exit → Act → World → Prop} (hg : o.guard = none) (m x v : Operand) (hop : o.op = Op.mapUpdate MT m x v) {z : Entry} {cs : List Value} (hm : a.eval m = .map (some b)) (hx : a.eval x = .string z.label) (hv : a.eval v = .agg cs.toArray)
    (h : MapE w base b l) (hrd : REntry.rd w (Lt base) cs z) (hz : InS z.label) (hn : l.length < maxLen)
    (hK : ∀ w', MapE w' base b (lessE l z.label ++ [z]) → w.mapTurned w' b → wpList Try.prog ops Q rest (a.put o.dst undef) w') : wpList Try.prog ops Q (o :: rest) a w := by
  refine wpList_plain hg fun K' hK' => ?_
  obtain ⟨w', hrun, r1, r2⟩ := h.put hrd hz hn
  unfold Oper.wp
  simp [execOp, hop, hm, hx, hv, hrun, Result.andThen]
  exact hK' _ _ (hK w' r1 r2)
theorem wp_cut {ops : Array Oper} {rest : List Oper} {o : Oper} {a : Act} {Q : Exit → Act → World → Prop} (hg : o.guard = none) (m x : Operand) (hop : o.op = Op.call { callee := Callee.builtin Builtin.delete, args := #[m, x], argTypes := #[MT, 9] }) {s : ByteArray} (hm : a.eval m = .map (some b)) (hx : a.eval x = .string s)
    (h : MapE w base b l) (hs : InS s)
    (hK : ∀ w', MapE w' base b (lessE l s) → w.mapTurned w' b → wpList Try.prog ops Q rest (a.put o.dst (.tuple #[])) w') : wpList Try.prog ops Q (o :: rest) a w := by
  refine wpList_plain hg fun K' hK' => ?_
  obtain ⟨w', hrun, r1, r2⟩ := h.cut hs o.type
  unfold Oper.wp
  simp [execOp, hop, resolve, invoke, builtin, hm, hx, hrun, Result.andThen]
  exact hK' _ _ (hK w' r1 r2)
end
/-! plain facts: what is put and dropped, as lists in order -/
theorem putStep_perm (e : Entry) (st : List Entry × Bool) (z : Entry) :
    ((putStep e st z).1 ++ (if (putStep e st z).2 then [] else [e])).Perm ((st.1 ++ (if st.2 then [] else [e])) ++ (if z.label = e.label then [] else [z])) := by
  have h0 : cmpS z.label e.label = 0 ↔ z.label = e.label := ⟨cmpS_zero, fun h => by rw [h]; exact cmpS_self _⟩
  unfold putStep
  by_cases hz : z.label = e.label
  · have h1 := h0.2 hz
    have h2 : decide (0 ≤ cmpS z.label e.label) = true := decide_eq_true (by omega)
    cases hs : st.2 <;> simp [hz, cmpS_self]
  · have h1 : ¬ cmpS z.label e.label = 0 := fun h => hz (h0.1 h)
    cases hs : st.2 <;> cases hd : decide (0 ≤ cmpS z.label e.label) <;> simp [h1, hd, hz]
    · exact (List.Perm.swap e z []).append_left st.1 |>.trans (by simp)
theorem putAll_perm (e : Entry) (l : List Entry) : (putAll e l).Perm (lessE l e.label ++ [e]) := by
  have key : ∀ (l : List Entry) (st : List Entry × Bool), ((l.foldl (putStep e) st).1 ++ (if (l.foldl (putStep e) st).2 then [] else [e])).Perm ((st.1 ++ (if st.2 then [] else [e])) ++ lessE l e.label) := by
    intro l
    induction l with
    | nil => intro st; rw [show lessE [] e.label = [] from rfl, List.append_nil]; exact List.Perm.refl _
    | cons z r ih =>
      intro st
      rw [List.foldl_cons]
      refine (ih (putStep e st z)).trans ?_
      refine ((putStep_perm e st z).append_right _).trans ?_
      rw [List.append_assoc]
      refine List.Perm.append_left _ ?_
      by_cases hz : z.label = e.label <;> simp [lessE, hz]
  have h := key l ([], false)
  unfold putAll putSt
  refine h.trans ?_
  simp only [Bool.false_eq_true, if_false, List.nil_append]
  exact List.perm_append_comm
end Go.Proofs.Ytpjfmbcandgpeaa.C09M
