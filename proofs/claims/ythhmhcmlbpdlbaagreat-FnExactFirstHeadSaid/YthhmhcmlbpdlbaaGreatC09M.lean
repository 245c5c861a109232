/- Chapter 9: the program's map of entries by labels: what it holds, what its operations do. Chapter 9: the keys of the program's map, sorted. Chapter 9: plain facts on lists in order by label; helpers of the walks. -/
import Derived.Test.YthhmhcmlbpdlbaaGreatQ08
import Derived.Test.YthhmhcmlbpdlbaaGreatM09
import Derived.Maps.OwnSet
import Derived.Maps.OwnOps
import Derived.Test.YthhmhcmlbpdlbaaGreatC05S
import Derived.Sort.KeysCollected
import Derived.Test.YthhmhcmlbpdlbaaGreatC05I
namespace Go.Proofs.YthhmhcmlbpdlbaaGreat.C09M
open Go.RowKit Go.Maps Mem MemS M04 M08 M09 M09F Rep RepA RW R08 Q08
set_option linter.unusedVariables false
set_option maxRecDepth 100000
/-- a value of the map reads as itself -/
def Rv (v : Value) : Option (DataW Value × List MemPlace) := some (.held v, [])
abbrev ky (s : ByteArray) : Lit := .string s.data.toList
abbrev MT : TypeId := 96
theorem law : Keyed Tryz.prog 9 := string_keyed (by kernel_rfl)
theorem under_mt : Tryz.prog.underlying MT = some (.map 9 84) := by kernel_rfl
theorem zeroE (w : World) : (zeroValue 84).run Tryz.prog w = .ok (.agg #[.string ⟨#[]⟩, .int .i64 0, .int .i64 0, .slice none 0 0]) w := by kernel_rfl
theorem key_of {s : ByteArray} (h : InS s) : keyOf Tryz.prog 9 (.string s) = some (ky s) := WideMaps.keyOf_string_mk (by kernel_rfl) h
theorem ky_inj {a b : ByteArray} (h : ky a = ky b) : a = b := by
  injection h with h
  exact data_ext h
def hasE (l : List Entry) (s : ByteArray) : Bool := l.any fun z => decide (z.label = s)
def lessE (l : List Entry) (s : ByteArray) : List Entry := l.filter fun z => !decide (z.label = s)
theorem hasE_iff {l : List Entry} {s : ByteArray} : hasE l s = true ↔ ∃ z ∈ l, z.label = s := by
  unfold hasE
  rw [List.any_eq_true]
  constructor
  · rintro ⟨z, hz, h⟩
    exact ⟨z, hz, of_decide_eq_true h⟩
  · rintro ⟨z, hz, h⟩
    exact ⟨z, hz, decide_eq_true h⟩
theorem lessE_mem {l : List Entry} {s : ByteArray} {z : Entry} : z ∈ lessE l s ↔ z ∈ l ∧ z.label ≠ s := by
  unfold lessE
  rw [List.mem_filter]
  simp
theorem hasE_perm {l l' : List Entry} (h : l.Perm l') (s : ByteArray) : hasE l s = hasE l' s := by
  rw [Bool.eq_iff_iff, hasE_iff, hasE_iff]
  exact ⟨fun ⟨z, hz, e⟩ => ⟨z, h.mem_iff.1 hz, e⟩, fun ⟨z, hz, e⟩ => ⟨z, h.mem_iff.2 hz, e⟩⟩
theorem lessE_len : ∀ {l : List Entry} (s : ByteArray), (labelsE l).Nodup → (lessE l s).length + (if hasE l s then 1 else 0) = l.length
  | [], s, _ => rfl
  | z :: r, s, h => by
    unfold labelsE at h
    rw [List.map_cons, List.nodup_cons] at h
    have ih := lessE_len (l := r) s h.2
    by_cases hz : z.label = s
    · have hr : hasE r s = false := by
        cases hh : hasE r s with
        | false => rfl
        | true =>
          obtain ⟨y, hy, e⟩ := hasE_iff.1 hh
          exact absurd (List.mem_map.2 ⟨y, hy, e.trans hz.symm⟩) h.1
      rw [hr] at ih
      have h1 : hasE (z :: r) s = true := hasE_iff.2 ⟨z, by simp, hz⟩
      have h2 : lessE (z :: r) s = lessE r s := by unfold lessE; rw [List.filter_cons_of_neg (by simp [hz])]
      rw [h1, h2]
      simp at ih ⊢
      omega
    · have h1 : hasE (z :: r) s = hasE r s := by unfold hasE; rw [List.any_cons, decide_eq_false hz, Bool.false_or]
      have h2 : lessE (z :: r) s = z :: lessE r s := by unfold lessE; rw [List.filter_cons_of_pos (by simp [hz])]
      rw [h1, h2, List.length_cons, List.length_cons]
      omega
theorem less_nd {l : List Entry} (s : ByteArray) (h : (labelsE l).Nodup) : (labelsE (lessE l s)).Nodup := by
  unfold labelsE lessE at *
  exact h.sublist (List.filter_sublist.map _)
theorem put_nd {l : List Entry} (z : Entry) (h : (labelsE l).Nodup) : (labelsE (lessE l z.label ++ [z])).Nodup := by
  have h1 := less_nd z.label h
  unfold labelsE at h1 ⊢
  rw [List.map_append, List.map_cons, List.map_nil, List.nodup_append]
  refine ⟨h1, by simp, fun a ha b hb => ?_⟩
  rw [List.mem_singleton] at hb
  subst hb
  obtain ⟨y, hy, rfl⟩ := List.mem_map.1 ha
  exact (lessE_mem.1 hy).2
/-- block b is a map that holds these entries by their labels; what they lead to lies below block 'base' -/
structure MapE (w : World) (base b : Nat) (l : List Entry) : Prop where
  ge : base ≤ b
  nd : (labelsE l).Nodup
  sz : ∀ z ∈ l, InS z.label
  ex : ∃ D : DataW Value, w.ownsMap Tryz.prog 9 Rv b l.length D ∧ Maps.size D = l.length ∧ (∀ s, Maps.has D (ky s) = hasE l s) ∧ ∀ z ∈ l, ∃ cs, REntry.rd w (Lt base) cs z ∧ ∀ d, D.atKey (ky z.label) d = .held (.agg cs.toArray)
section
variable {w w' : World} {base b : Nat} {l l' : List Entry}
theorem owns_keep {n : Nat} {D : DataW Value} (h : w.ownsMap Tryz.prog 9 Rv b n D) (hb : w'.heap[b]? = w.heap[b]?) : w'.ownsMap Tryz.prog 9 Rv b n D := by
  obtain ⟨es, clock, h1, h2⟩ := h
  exact ⟨es, clock, hb.trans h1, h2⟩
theorem owns_tight {n : Nat} {D : DataW Value} (h : w.ownsMap Tryz.prog 9 Rv b n D) : w.ownsMap Tryz.prog 9 Rv b (Maps.size D) D := by
  obtain ⟨es, clock, h1, h2, h3, rfl⟩ := h
  exact ⟨es, clock, h1, h2, by simp [Maps.size, length_sorted], rfl⟩
theorem MapE.lt (h : MapE w base b l) : b < w.heap.size := by
  obtain ⟨D, hown, -⟩ := h.ex
  exact hown.lt
theorem MapE.keep (h : MapE w base b l) (hb : w'.heap[b]? = w.heap[b]?) (hr : ∀ i, i < base → w'.heap[i]? = w.heap[i]?) : MapE w' base b l := by
  obtain ⟨D, h1, h2, h3, h4⟩ := h.ex
  refine ⟨h.ge, h.nd, h.sz, D, owns_keep h1 hb, h2, h3, fun z hz => ?_⟩
  obtain ⟨cs, h5, h6⟩ := h4 z hz
  exact ⟨cs, REntry.keep h5 fun i hi => hr i hi, h6⟩
theorem MapE.below {B : Nat} (h : MapE w base b l) (hb : Below B w w') (hB : b < B) : MapE w' base b l := h.keep (hb.block b hB) fun i hi => hb.block i (by have := h.ge; omega)
theorem MapE.alloc (h : MapE w base b l) (o : Obj) : MapE (w.alloc o) base b l := h.keep (Below.heap_alloc w o b h.lt) fun i hi => Below.heap_alloc w o i (by have := h.ge; have := h.lt; omega)
theorem MapE.store (h : MapE w base b l) {p : Addr} (hp : b < p.block) (v : Value) : MapE (w.setCell p v) base b l := h.keep (Below.heap_setCell w p v b (by omega)) fun i hi => Below.heap_setCell w p v i (by have := h.ge; omega)
theorem MapE.drew (h : MapE w base b l) : MapE w.drew base b l := h.keep rfl fun i hi => rfl
theorem MapE.perm (h : MapE w base b l) (hp : l.Perm l') : MapE w base b l' := by
  obtain ⟨D, h1, h2, h3, h4⟩ := h.ex
  refine ⟨h.ge, (hp.map Entry.label).nodup_iff.1 h.nd, fun z hz => h.sz z (hp.mem_iff.2 hz), D, by rw [← hp.length_eq]; exact h1, by rw [← hp.length_eq]; exact h2, fun s => (h3 s).trans (hasE_perm hp s), fun z hz => h4 z (hp.mem_iff.2 hz)⟩
theorem MapE.mono {base' : Nat} (h : MapE w base b l) (h1 : base ≤ base') (h2 : base' ≤ b) : MapE w base' b l := by
  obtain ⟨D, h3, h4, h5, h6⟩ := h.ex
  exact ⟨h2, h.nd, h.sz, D, h3, h4, h5, fun z hz => by
    obtain ⟨cs, h7, h8⟩ := h6 z hz
    exact ⟨cs, REntry.more h7 fun i hi => Nat.lt_of_lt_of_le hi h1, h8⟩⟩
/-- 'contents{}' -/
theorem MapE.made (hb : base ≤ w.heap.size) : MapE (w.alloc (.map #[] 0)) base w.heap.size [] :=
  ⟨hb, by simp [labelsE], by simp, .map [], World.ownsMap_made _ _ _ _, rfl, fun s => rfl, by simp⟩
theorem turned_keep (h : w.mapTurned w' b) {i : Nat} (hi : i < b) (hlt : i < w.heap.size) : w'.heap[i]? = w.heap[i]? := h.grown.block i hlt (by intro e; injection e with e; omega)
/-- 'm[k] = e' -/
theorem MapE.put (h : MapE w base b l) {z : Entry} {cs : List Value} (hrd : REntry.rd w (Lt base) cs z) (hz : InS z.label) (hn : l.length < maxLen) :
    ∃ w', (Instr.mapUpdate MT (.map (some b)) (.string z.label) (.agg cs.toArray)).run Tryz.prog w = .ok () w' ∧ MapE w' base b (lessE l z.label ++ [z]) ∧ w.mapTurned w' b := by
  have hlt := h.lt
  obtain ⟨D, h1, h2, h3, h4⟩ := h.ex
  obtain ⟨w', hrun, r1, r2⟩ := h1.store law under_mt hn (key_of hz) (show Rv (.agg cs.toArray) = some (.held (.agg cs.toArray), []) from rfl)
  have ht := h1.tidy law
  have hs : Maps.size (D.put (ky z.label) (.held (.agg cs.toArray))) = (lessE l z.label ++ [z]).length := by
    rw [size_put ht, h3, h2, List.length_append, List.length_singleton]
    have := lessE_len z.label h.nd
    generalize hasE l z.label = q at this ⊢
    cases q <;> simp at this ⊢ <;> omega
  have hk : ∀ i, i < base → w'.heap[i]? = w.heap[i]? := fun i hi => turned_keep r2 (by have := h.ge; omega) (by have := h.ge; omega)
  refine ⟨w', hrun, ⟨h.ge, put_nd z h.nd, fun y hy => ?_, D.put (ky z.label) (.held (.agg cs.toArray)), by rw [← hs]; exact owns_tight r1, hs, fun s => ?_, fun y hy => ?_⟩, r2⟩
  · rcases List.mem_append.1 hy with hy | hy
    · exact h.sz y (lessE_mem.1 hy).1
    · rw [List.mem_singleton.1 hy]
      exact hz
  · by_cases he : s = z.label
    · subst he
      rw [has_put_same ht.isMap (show WideAt.IsKeyLit (ky z.label) from trivial)]
      exact (hasE_iff.2 ⟨z, by simp, rfl⟩).symm
    · rw [has_put_other (fun e => he (ky_inj e)), h3, Bool.eq_iff_iff, hasE_iff, hasE_iff]
      constructor
      · rintro ⟨y, hy, rfl⟩
        exact ⟨y, List.mem_append.2 (.inl (lessE_mem.2 ⟨hy, he⟩)), rfl⟩
      · rintro ⟨y, hy, rfl⟩
        rcases List.mem_append.1 hy with hy | hy
        · exact ⟨y, (lessE_mem.1 hy).1, rfl⟩
        · rw [List.mem_singleton.1 hy] at he
          exact absurd rfl he
  · rcases List.mem_append.1 hy with hy | hy
    · obtain ⟨cs', h5, h6⟩ := h4 y (lessE_mem.1 hy).1
      exact ⟨cs', REntry.keep h5 fun i hi => hk i hi, fun d => by rw [atKey_put_other (fun e => (lessE_mem.1 hy).2 (ky_inj e))]; exact h6 d⟩
    · rw [List.mem_singleton.1 hy]
      exact ⟨cs, REntry.keep hrd fun i hi => hk i hi, fun d => atKey_put_same ht.isMap (show WideAt.IsKeyLit (ky z.label) from trivial) _ _⟩
/-- 'delete(m, k)' -/
theorem MapE.cut (h : MapE w base b l) {s : ByteArray} (hs0 : InS s) (ty : TypeId) :
    ∃ w', (Builtin.delete_ #[MT, 9] ty #[.map (some b), .string s]).run Tryz.prog w = .ok (.tuple #[]) w' ∧ MapE w' base b (lessE l s) ∧ w.mapTurned w' b := by
  have hlt := h.lt
  obtain ⟨D, h1, h2, h3, h4⟩ := h.ex
  obtain ⟨w', hrun, r1, r2⟩ := h1.drop law under_mt (key_of hs0) ty
  have ht := h1.tidy law
  have hs : Maps.size (D.del (ky s)) = (lessE l s).length := by
    have e := size_del (k := ky s) ht
    have := lessE_len s h.nd
    rw [h3, h2] at e
    omega
  have hk : ∀ i, i < base → w'.heap[i]? = w.heap[i]? := fun i hi => turned_keep r2 (by have := h.ge; omega) (by have := h.ge; omega)
  refine ⟨w', hrun, ⟨h.ge, less_nd s h.nd, fun y hy => h.sz y (lessE_mem.1 hy).1, D.del (ky s), by rw [← hs]; exact owns_tight r1, hs, fun s' => ?_, fun y hy => ?_⟩, r2⟩
  · by_cases he : s' = s
    · subst he
      rw [has_del_same]
      cases hh : hasE (lessE l s') s' with
      | false => rfl
      | true =>
        obtain ⟨y, hy, e⟩ := hasE_iff.1 hh
        exact absurd e (lessE_mem.1 hy).2
    · rw [has_del_other (fun e => he (ky_inj e)), h3, Bool.eq_iff_iff, hasE_iff, hasE_iff]
      constructor
      · rintro ⟨y, hy, rfl⟩
        exact ⟨y, lessE_mem.2 ⟨hy, he⟩, rfl⟩
      · rintro ⟨y, hy, rfl⟩
        exact ⟨y, (lessE_mem.1 hy).1, rfl⟩
  · obtain ⟨cs', h5, h6⟩ := h4 y (lessE_mem.1 hy).1
    exact ⟨cs', REntry.keep h5 fun i hi => hk i hi, fun d => by rw [atKey_del_other (fun e => (lessE_mem.1 hy).2 (ky_inj e))]; exact h6 d⟩
/-- '_, found := m[k]' -/
theorem MapE.ask (h : MapE w base b l) {s : ByteArray} (hs : InS s) :
    ∃ (x : ByteArray) (i j : Int) (A : Option Addr) (n c : Nat), (Instr.lookup MT (.map (some b)) (.string s) true).run Tryz.prog w = .ok (.tuple #[.agg #[.string x, .int .i64 i, .int .i64 j, .slice A n c], .bool (hasE l s)]) w := by
  obtain ⟨D, h1, h2, h3, h4⟩ := h.ex
  obtain ⟨v, ps, hrun, hv⟩ := h1.look_ok law under_mt (zeroE w) (show Rv _ = some (.held _, []) from rfl) (key_of hs)
  rw [h3 s] at hrun
  unfold Rv at hv
  injection hv with hv
  injection hv with hv _
  cases hh : hasE l s with
  | false =>
    rw [hh] at hrun
    rw [atKey_of_not_has (by rw [h3]; exact hh)] at hv
    injection hv with hv
    subst hv
    exact ⟨_, _, _, _, _, _, hrun⟩
  | true =>
    rw [hh] at hrun
    obtain ⟨z, hz, rfl⟩ := hasE_iff.1 hh
    obtain ⟨cs, h5, h6⟩ := h4 z hz
    rw [h6] at hv
    injection hv with hv
    obtain ⟨A, n, c, rfl, -⟩ := REntry_rd.1 h5
    subst hv
    exact ⟨_, _, _, _, _, _, hrun⟩
/-- 'm[k]' of a label that is there -/
theorem MapE.get (h : MapE w base b l) {z : Entry} (hz : z ∈ l) :
    ∃ cs, (Instr.lookup MT (.map (some b)) (.string z.label) false).run Tryz.prog w = .ok (.agg cs.toArray) w ∧ REntry.rd w (Lt base) cs z := by
  obtain ⟨D, h1, h2, h3, h4⟩ := h.ex
  obtain ⟨v, ps, hrun, hv⟩ := h1.lookup law under_mt (zeroE w) (show Rv _ = some (.held _, []) from rfl) (key_of (h.sz z hz))
  obtain ⟨cs, h5, h6⟩ := h4 z hz
  unfold Rv at hv
  injection hv with hv
  injection hv with hv _
  rw [h6] at hv
  injection hv with hv
  subst hv
  exact ⟨cs, hrun, h5⟩
/-- 'len(m)' -/
theorem MapE.len (h : MapE w base b l) (ty : TypeId) : (Builtin.len_ #[MT] ty #[.map (some b)]).run Tryz.prog w = .ok (.int .i64 l.length) w := by
  obtain ⟨D, h1, h2, h3, h4⟩ := h.ex
  have := h1.len under_mt ty
  rw [h2] at this
  exact this
/-- its keys -/
theorem MapE.keys (h : MapE w base b l) : ∃ D : DataW Value, w.ownsMap Tryz.prog 9 Rv b l.length D ∧ Maps.size D = l.length ∧ ((labelsE l).map fun s => s.data.toList).Perm (strKeys D) := by
  obtain ⟨D, h1, h2, h3, h4⟩ := h.ex
  refine ⟨D, h1, h2, ?_⟩
  obtain ⟨es, rfl, hp⟩ := h1.tidy law
  obtain ⟨es', e, hk⟩ := h1.keysOf
  injection e with e
  subst e
  refine perm_strKeys hp (fun p hp' => ?_) ?_ fun x => ?_
  · obtain ⟨v, hv⟩ := hk p hp'
    obtain ⟨x, _, hx, _⟩ := Maps.keyOf_str (by kernel_rfl) hv
    exact ⟨x, hx⟩
  · exact List.pairwise_map.2 (h.nd.imp fun {a b} hne e => hne (data_ext e))
  · have h3 := h3 ⟨⟨x⟩⟩
    rw [show ky ⟨⟨x⟩⟩ = .string x from rfl] at h3
    rw [h3, hasE_iff, List.mem_map]
    constructor
    · rintro ⟨s, hs, rfl⟩
      obtain ⟨z, hz, rfl⟩ := List.mem_map.1 hs
      exact ⟨z, hz, rfl⟩
    · rintro ⟨z, hz, e⟩
      exact ⟨z.label, List.mem_map.2 ⟨z, hz, rfl⟩, by rw [e]⟩
/-- a store into the map, where the walk meets it -/
theorem wp_put {ops : Array Oper} {rest : List Oper} {o : Oper} {a : Act} {Q : Exit → Act → World → Prop} (hg : o.guard = none) (m x v : Operand) (hop : o.op = Op.mapUpdate MT m x v) {z : Entry} {cs : List Value} (hm : a.eval m = .map (some b)) (hx : a.eval x = .string z.label) (hv : a.eval v = .agg cs.toArray)
    (h : MapE w base b l) (hrd : REntry.rd w (Lt base) cs z) (hz : InS z.label) (hn : l.length < maxLen)
    (hK : ∀ w', MapE w' base b (lessE l z.label ++ [z]) → w.mapTurned w' b → wpList Tryz.prog ops Q rest (a.put o.dst undef) w') : wpList Tryz.prog ops Q (o :: rest) a w := by
  refine wpList_plain hg fun K' hK' => ?_
  obtain ⟨w', hrun, r1, r2⟩ := h.put hrd hz hn
  unfold Oper.wp
  simp [execOp, hop, hm, hx, hv, hrun, Result.andThen]
  exact hK' _ _ (hK w' r1 r2)
theorem wp_cut {ops : Array Oper} {rest : List Oper} {o : Oper} {a : Act} {Q : Exit → Act → World → Prop} (hg : o.guard = none) (m x : Operand) (hop : o.op = Op.call { callee := Callee.builtin Builtin.delete, args := #[m, x], argTypes := #[MT, 9] }) {s : ByteArray} (hm : a.eval m = .map (some b)) (hx : a.eval x = .string s)
    (h : MapE w base b l) (hs : InS s)
    (hK : ∀ w', MapE w' base b (lessE l s) → w.mapTurned w' b → wpList Tryz.prog ops Q rest (a.put o.dst (.tuple #[])) w') : wpList Tryz.prog ops Q (o :: rest) a w := by
  refine wpList_plain hg fun K' hK' => ?_
  obtain ⟨w', hrun, r1, r2⟩ := h.cut hs o.type
  unfold Oper.wp
  simp [execOp, hop, resolve, invoke, builtin, hm, hx, hrun, Result.andThen]
  exact hK' _ _ (hK w' r1 r2)
end
/-! plain facts: what is put and dropped, as lists in order -/
theorem putStep_perm (e : Entry) (st : List Entry × Bool) (z : Entry) :
    ((putStep e st z).1 ++ (if (putStep e st z).2 then [] else [e])).Perm ((st.1 ++ (if st.2 then [] else [e])) ++ (if z.label = e.label then [] else [z])) := by
  have h0 : cmpS z.label e.label = 0 ↔ z.label = e.label := ⟨cmpS_zero, fun h => by rw [h]; exact cmpS_self _⟩
  unfold putStep
  by_cases hz : z.label = e.label
  · have h1 := h0.2 hz
    have h2 : decide (0 ≤ cmpS z.label e.label) = true := decide_eq_true (by omega)
    cases hs : st.2 <;> simp [hz, cmpS_self]
  · have h1 : ¬ cmpS z.label e.label = 0 := fun h => hz (h0.1 h)
    cases hs : st.2 <;> cases hd : decide (0 ≤ cmpS z.label e.label) <;> simp [h1, hd, hz]
    · exact (List.Perm.swap e z []).append_left st.1 |>.trans (by simp)
theorem putAll_perm (e : Entry) (l : List Entry) : (putAll e l).Perm (lessE l e.label ++ [e]) := by
  have key : ∀ (l : List Entry) (st : List Entry × Bool), ((l.foldl (putStep e) st).1 ++ (if (l.foldl (putStep e) st).2 then [] else [e])).Perm ((st.1 ++ (if st.2 then [] else [e])) ++ lessE l e.label) := by
    intro l
    induction l with
    | nil => intro st; rw [show lessE [] e.label = [] from rfl, List.append_nil]; exact List.Perm.refl _
    | cons z r ih =>
      intro st
      rw [List.foldl_cons]
      refine (ih (putStep e st z)).trans ?_
      refine ((putStep_perm e st z).append_right _).trans ?_
      rw [List.append_assoc]
      refine List.Perm.append_left _ ?_
      by_cases hz : z.label = e.label <;> simp [lessE, hz]
  have h := key l ([], false)
  unfold putAll putSt
  refine h.trans ?_
  simp only [Bool.false_eq_true, if_false, List.nil_append]
  exact List.perm_append_comm
end Go.Proofs.YthhmhcmlbpdlbaaGreat.C09M
namespace Go.Proofs.YthhmhcmlbpdlbaaGreat.C09K
end Go.Proofs.YthhmhcmlbpdlbaaGreat.C09K
namespace Go.Proofs.YthhmhcmlbpdlbaaGreat.C09N
open Go.RowKit Mem MemS M04 M08 M09 M09F C09M Rep RepA RW R08 Q08
set_option linter.unusedVariables false
set_option maxRecDepth 100000
abbrev ltS (a b : ByteArray) : Prop := cmpS a b = -1
theorem at_get {m : List Entry} {i : Nat} (h : i < m.length) : at0 m i = m[i] := by simp [at0, List.getD, h]
theorem are_pair {m : List Entry} (h : areE m = true) : (labelsE m).Pairwise ltS := by
  unfold labelsE
  rw [List.pairwise_map, List.pairwise_iff_getElem]
  intro i j hi hj hij
  have := srt h hij hj
  rw [at_get hi, at_get hj] at this
  exact this
theorem are_all {m : List Entry} (h : areE m = true) : ∀ z ∈ m, isEntry z = true := by
  intro z hz
  obtain ⟨i, hi, rfl⟩ := mem_at hz
  have h1 := areE_ok h hi
  unfold okE at h1
  rw [Bool.and_eq_true] at h1
  exact h1.1
theorem are_of {m : List Entry} (h1 : m.length ≤ 12) (h2 : ∀ z ∈ m, isEntry z = true) (h3 : (labelsE m).Pairwise ltS) : areE m = true := by
  unfold labelsE at h3
  rw [List.pairwise_map, List.pairwise_iff_getElem] at h3
  rw [areE_all fun j hj => ?_]
  · exact decide_eq_true h1
  · unfold okE
    rw [h2 _ (at_mem hj), Bool.true_and]
    by_cases h0 : j = 0
    · simp [h0]
    · have h4 := h3 (j - 1) j (by omega) hj (by omega)
      rw [← at_get (by omega), ← at_get hj] at h4
      rw [decide_eq_true h4, Bool.or_true]
theorem pair_nd {m : List Entry} (h : (labelsE m).Pairwise ltS) : (labelsE m).Nodup := h.imp fun {a b} hab e => by
  subst e
  unfold ltS at hab
  rw [cmpS_self] at hab
  omega
theorem take_are {l : List Entry} {j : Nat} (hj : j ≤ l.length) (h12 : l.length ≤ 12) (h : ∀ k, k < j → okE l k = true) : areE (l.take j) = true := by
  have hl : (l.take j).length = j := by rw [List.length_take]; omega
  have ha : ∀ k, k < j → at0 (l.take j) k = at0 l k := fun k hk => by simp [at0, List.getD, List.getElem?_take_of_lt hk]
  rw [areE_all fun k hk => ?_]
  · exact decide_eq_true (by omega)
  · rw [hl] at hk
    have h1 := h k hk
    unfold okE at h1 ⊢
    rw [ha k hk, ha (k - 1) (by omega)]
    exact h1
theorem less_last {m : List Entry} {z : Entry} (h : areE (m ++ [z]) = true) : lessE m z.label = m := by
  unfold lessE
  rw [List.filter_eq_self]
  intro y hy
  rw [Bool.not_eq_true', decide_eq_false_iff_not]
  intro e
  have h1 := pair_nd (are_pair h)
  unfold labelsE at h1
  rw [List.map_append, List.nodup_append] at h1
  exact h1.2.2 _ (List.mem_map.2 ⟨y, hy, rfl⟩) _ (List.mem_map.2 ⟨z, by simp, rfl⟩) e
theorem less_none {l : List Entry} {s : ByteArray} (h : hasE l s = false) : lessE l s = l := by
  unfold lessE
  rw [List.filter_eq_self]
  intro y hy
  rw [Bool.not_eq_true', decide_eq_false_iff_not]
  intro e
  rw [hasE_iff.2 ⟨y, hy, e⟩] at h
  cases h
theorem fold_past {e : Entry} : ∀ (l out : List Entry), (∀ z ∈ l, cmpS z.label e.label ≠ 0) → l.foldl (putStep e) (out, true) = (out ++ l, true)
  | [], out, _ => by simp
  | z :: r, out, h => by
    rw [List.foldl_cons]
    have h0 : cmpS z.label e.label ≠ 0 := h z (by simp)
    have e1 : putStep e (out, true) z = (out ++ [z], true) := by
      unfold putStep
      simp [h0]
    rw [e1, fold_past r _ fun y hy => h y (by simp [hy])]
    simp
theorem fold_pair {e : Entry} : ∀ (l out : List Entry), (labelsE (out ++ l)).Pairwise ltS → (∀ z ∈ out, ltS z.label e.label) →
    (labelsE ((l.foldl (putStep e) (out, false)).1 ++ (if (l.foldl (putStep e) (out, false)).2 then [] else [e]))).Pairwise ltS
  | [], out, h, ho => by
    unfold labelsE at h ⊢
    simp only [List.foldl_nil, Bool.false_eq_true, if_false]
    rw [List.append_nil] at h
    rw [List.map_append, List.pairwise_append]
    refine ⟨h, by simp, fun a ha b hb => ?_⟩
    obtain ⟨y, hy, rfl⟩ := List.mem_map.1 ha
    rw [List.map_cons, List.map_nil, List.mem_singleton] at hb
    subst hb
    exact ho y hy
  | z :: r, out, h, ho => by
    rw [List.foldl_cons]
    have h' := h
    unfold labelsE at h'
    rw [List.map_append, List.map_cons, List.pairwise_append, List.pairwise_cons] at h'
    obtain ⟨p1, ⟨p2, p3⟩, p4⟩ := h'
    rcases cmpS_range z.label e.label with hc | hc | hc
    · have e1 : putStep e (out, false) z = (out ++ [z], false) := by
        unfold putStep
        simp [hc]
      rw [e1]
      refine fold_pair r (out ++ [z]) (by rw [List.append_assoc]; exact h) fun y hy => ?_
      rcases List.mem_append.1 hy with hy | hy
      · exact ho y hy
      · rw [List.mem_singleton.1 hy]
        exact hc
    · have e1 : putStep e (out, false) z = (out ++ [e], true) := by
        unfold putStep
        simp [hc]
      have hze : z.label = e.label := cmpS_zero hc
      rw [e1, fold_past r _ fun y hy h0 => ?_]
      · simp only [if_true, List.append_nil]
        unfold labelsE at h ⊢
        rw [List.map_append, List.map_cons, hze] at h
        rw [List.append_assoc, List.map_append, List.map_append]
        exact h
      · have := p2 _ (List.mem_map.2 ⟨y, hy, rfl⟩)
        rw [hze, ← cmpS_zero h0, ltS, cmpS_self] at this
        omega
    · have e1 : putStep e (out, false) z = (out ++ [e, z], true) := by
        unfold putStep
        simp [hc]
      have hez : ltS e.label z.label := by
        have := cmpS_neg e.label z.label
        unfold ltS
        omega
      rw [e1, fold_past r _ fun y hy h0 => ?_]
      · simp only [if_true, List.append_nil]
        unfold labelsE
        rw [List.append_assoc, List.map_append, List.pairwise_append]
        refine ⟨p1, ?_, fun a ha b hb => ?_⟩
        · show List.Pairwise ltS (e.label :: z.label :: r.map Entry.label)
          refine List.pairwise_cons.2 ⟨fun b hb => ?_, List.pairwise_cons.2 ⟨p2, p3⟩⟩
          rcases List.mem_cons.1 hb with rfl | hb
          · exact hez
          · exact cmpS_trans hez (p2 b hb)
        · have hb : b ∈ e.label :: z.label :: r.map Entry.label := hb
          rcases List.mem_cons.1 hb with rfl | hb
          · obtain ⟨y, hy, rfl⟩ := List.mem_map.1 ha
            exact ho y hy
          · exact p4 a ha b hb
      · have := cmpS_trans hez (p2 _ (List.mem_map.2 ⟨y, hy, rfl⟩))
        have h1 := cmpS_neg y.label e.label
        omega
theorem put_pair {e : Entry} {l : List Entry} (h : areE l = true) : (labelsE (putAll e l)).Pairwise ltS := fold_pair l [] (are_pair h) (by simp)
theorem put_size {e : Entry} {l : List Entry} (h : areE l = true) : (putAll e l).length + (if hasE l e.label then 1 else 0) = l.length + 1 := by
  have h1 := lessE_len e.label (pair_nd (are_pair h))
  rw [(putAll_perm e l).length_eq, List.length_append, List.length_singleton]
  omega
theorem put_no1 {l : List Entry} {x : Entry} (h : areE l = false) : putE l x = (l, false) := by
  unfold putE
  rw [h]
  rfl
theorem put_no2 {l : List Entry} {x : Entry} (h : isEntry x = false) : putE l x = (l, false) := by
  unfold putE
  rw [if_neg]
  intro h1
  rw [Bool.and_eq_true] at h1
  rw [are_all h1.2 x (put_mem x l)] at h
  cases h
theorem put_no3 {l : List Entry} {x : Entry} (h : areE l = true) (h1 : hasE l x.label = false) (h2 : ¬ l.length < 12) : putE l x = (l, false) := by
  unfold putE
  rw [if_neg]
  intro h3
  rw [Bool.and_eq_true] at h3
  have h4 := areE_len h3.2
  have h5 := put_size (e := x) h
  rw [h1] at h5
  simp at h5
  omega
theorem put_yes {l : List Entry} {x : Entry} (h : areE l = true) (hx : isEntry x = true) (hr : (hasE l x.label || decide (l.length < 12)) = true) : putE l x = (putAll x l, true) ∧ areE (putAll x l) = true := by
  have h1 : areE (putAll x l) = true := by
    refine are_of ?_ (fun z hz => ?_) (put_pair h)
    · have h5 := put_size (e := x) h
      have h6 := areE_len h
      rw [Bool.or_eq_true] at hr
      rcases hr with hr | hr
      · rw [hr] at h5
        simp at h5
        omega
      · have := of_decide_eq_true hr
        omega
    · have hz := (putAll_perm x l).mem_iff.1 hz
      rcases List.mem_append.1 hz with hz | hz
      · exact are_all h z (lessE_mem.1 hz).1
      · rw [List.mem_singleton.1 hz]
        exact hx
  refine ⟨?_, h1⟩
  unfold putE
  rw [h, h1]
  rfl
theorem fnd_has {l : List Entry} {s : ByteArray} : decide (0 ≤ fndE l s) = hasE l s := by
  rw [Bool.eq_iff_iff, decide_eq_true_iff, hasE_iff]
  rcases fndE_cases l s with ⟨h, hb⟩ | ⟨j, hj, h, he, hb⟩
  · rw [h]
    refine ⟨fun h => absurd h (by omega), fun ⟨z, hz, e⟩ => ?_⟩
    obtain ⟨i, hi, rfl⟩ := mem_at hz
    exact absurd e (hb i hi)
  · rw [h]
    exact ⟨fun _ => ⟨_, at_mem hj, he⟩, fun _ => by omega⟩
theorem drop_no1 {l : List Entry} {s : ByteArray} (h : areE l = false) : dropE l s = (l, false) := by
  unfold dropE
  rw [h]
  rfl
theorem drop_no2 {l : List Entry} {s : ByteArray} (h : hasE l s = false) : dropE l s = (l, false) := by
  unfold dropE
  rw [fnd_has, h, Bool.and_false]
  rfl
theorem drop_yes {l : List Entry} {s : ByteArray} (h : areE l = true) (h1 : hasE l s = true) : dropE l s = (lessE l s, true) ∧ (labelsE (lessE l s)).Pairwise ltS := by
  refine ⟨?_, ?_⟩
  · have h2 : dropE l s = (l.take (fndE l s).toNat ++ l.drop ((fndE l s).toNat + 1), true) := by
      unfold dropE
      rw [fnd_has, h, h1]
      rfl
    rw [h2]
    rcases fndE_cases l s with ⟨h3, hb⟩ | ⟨j, hj, h3, he, hb⟩
    · obtain ⟨z, hz, e⟩ := hasE_iff.1 h1
      obtain ⟨i, hi, rfl⟩ := mem_at hz
      exact absurd e (hb i hi)
    · rw [h3]
      have e1 : l = l.take j ++ at0 l j :: l.drop (j + 1) := by
        rw [at_get hj, ← List.drop_eq_getElem_cons hj, List.take_append_drop]
      have e2 : lessE (l.take j ++ at0 l j :: l.drop (j + 1)) s = l.take j ++ l.drop (j + 1) := by
        have hk : ∀ i, i < l.length → i ≠ j → (at0 l i).label ≠ s := fun i hi hne e => hne (uniq h hi hj (e.trans he.symm))
        have e3 : lessE (l.take j) s = l.take j := less_none (by
          cases hh : hasE (l.take j) s with
          | false => rfl
          | true =>
            obtain ⟨z, hz, e⟩ := hasE_iff.1 hh
            obtain ⟨i, hi, rfl⟩ := mem_at hz
            have hi' : i < j := by rw [List.length_take] at hi; omega
            rw [show at0 (l.take j) i = at0 l i from by simp [at0, List.getD, List.getElem?_take_of_lt hi']] at e
            exact absurd e (hk i (by omega) (by omega)))
        have e4 : lessE (l.drop (j + 1)) s = l.drop (j + 1) := less_none (by
          cases hh : hasE (l.drop (j + 1)) s with
          | false => rfl
          | true =>
            obtain ⟨z, hz, e⟩ := hasE_iff.1 hh
            obtain ⟨i, hi, rfl⟩ := mem_at hz
            rw [List.length_drop] at hi
            rw [show at0 (l.drop (j + 1)) i = at0 l (j + 1 + i) from by simp [at0, List.getD]] at e
            exact absurd e (hk _ (by omega) (by omega)))
        unfold lessE at e3 e4 ⊢
        rw [List.filter_append, List.filter_cons_of_neg (by simp [he]), e3, e4]
      rw [show ((j : Int)).toNat = j from rfl]
      congr 1
      rw [← e2, ← e1]
  · have h2 := are_pair h
    unfold labelsE lessE at *
    exact h2.sublist (List.filter_sublist.map _)
theorem lab_at {m : List Entry} {j : Nat} (h : j < m.length) : (labelsE m).getD j .empty = (at0 m j).label := by
  simp [labelsE, at0, List.getD, h]
theorem bx_set {w : World} {b : Nat} {vs : List Value} (h : Box w b vs) {j : Nat} (hj : j < vs.length) (v : Value) : Box (w.setCell ⟨b, j, none⟩ v) b (vs.set j v) := by
  have hu : vs[j]? = some (vs[j]'hj) := List.getElem?_eq_getElem hj
  refine ⟨fun {i u} hi => ?_, fun {i u} hi => ?_, by first | (simp; done) | (simp; exact h.lt)⟩
  · rw [List.getElem?_set] at hi
    by_cases e : j = i
    · subst e
      simp [hj] at hi
      subst hi
      exact World.cell?_setCell_same _ _ _ (h.cell hu)
    · rw [if_neg e] at hi
      rw [World.cell?_setCell_other _ _ _ _ (fun h9 => e (by injection h9))]
      exact h.cell hi
  · rw [World.frozen?_setCell]
    have hi' : i < (vs.set j v).length := (List.getElem?_eq_some_iff.1 hi).1
    exact h.warm (List.getElem?_eq_getElem (show i < vs.length by simpa using hi'))
theorem bx_store {w : World} {b : Nat} {vs : List Value} (h : Box w b vs) {p : Addr} (hp : p.block ≠ b) (v : Value) : Box (w.setCell p v) b vs := h.keep (Below.heap_setCell w p v b (fun e => hp e.symm))
theorem bl_store {B : Nat} {w w' : World} (h : Below B w w') {p : Addr} (hp : B ≤ p.block) (v : Value) : Below B w (w'.setCell p v) :=
  ⟨h.os, h.tape, h.output, by simpa [World.setCell] using h.size, fun i hi => (Below.heap_setCell w' p v i (by omega)).trans (h.block i hi)⟩
/-- 'make([]T, 0, n)' of structs -/
theorem wp_make0R {α : Type} {R : Rep α} {st : TypeId} (ti : Ti R st) {w : World} {ops : Array Oper} {rest : List Oper} {o : Oper} {a : Act} {Q : Exit → Act → World → Prop} (hgd : o.guard = none) (l c : Operand) (ho : o.op = Op.makeSlice st l c)
    {n : Nat} (hl : a.eval l = .int .i64 0) (hc : a.eval c = .int .i64 n) (hb : n ≤ 68719476736)
    (hK : ∀ w', Owns R w' w.heap.size w'.heap.size (some ⟨w.heap.size, 0, none⟩) 0 n [] → Below w.heap.size w w' → wpList Tryz.prog ops Q rest (a.put o.dst (.slice (some ⟨w.heap.size, 0, none⟩) 0 n)) w') :
    wpList Tryz.prog ops Q (o :: rest) a w := by
  obtain ⟨hu, hk, i, z2, h1, h2, hzc, h3, h4⟩ := ti
  have hbb : i.bytes * n ≤ 1024 * n := Nat.mul_le_mul_right _ h4
  refine wpList_make_own w hgd l c st ho w.heap.size R.ty i z2 R.n hu h1 h2 h3 .i64 .i64 n n hl hc rfl (by omega) (by simp only [maxLen]; omega) (Nat.le_refl _) fun w' hown hg => hK w' ⟨[w.heap.size], ⟨[], [], by simp, by simp [blk], ?_, .nil⟩, by simp, ?_⟩ ((Below.refl _ _).grown hg (Nat.le_refl _) (by simp))
  · exact row_base hown fun a e => Nat.zero_le _
  · intro b hb
    rw [List.mem_singleton.1 hb]
    exact ⟨Nat.le_refl _, (hown.lt w.heap.size (by rfl)).2⟩
theorem wp_make0S {w : World} {ops : Array Oper} {rest : List Oper} {o : Oper} {a : Act} {Q : Exit → Act → World → Prop} (hgd : o.guard = none) (l c : Operand) (ho : o.op = Op.makeSlice SST l c)
    {n : Nat} (hl : a.eval l = .int .i64 0) (hc : a.eval c = .int .i64 n) (hb : n ≤ 8796093022208)
    (hK : ∀ w', OwnS w' w.heap.size w'.heap.size (some ⟨w.heap.size, 0, none⟩) 0 n [] → Below w.heap.size w w' → wpList Tryz.prog ops Q rest (a.put o.dst (.slice (some ⟨w.heap.size, 0, none⟩) 0 n)) w') :
    wpList Tryz.prog ops Q (o :: rest) a w := by
  obtain ⟨i, h1, h2, h3, h4⟩ := info_str
  have hbb : i.bytes * n ≤ 16 * n := Nat.mul_le_mul_right _ h4
  refine wpList_make_own w hgd l c SST ho w.heap.size EST i (.string .empty) 1 under_str h1 h2 h3 .i64 .i64 n n hl hc rfl (by omega) (by simp only [maxLen]; omega) (Nat.le_refl _) fun w' hown hg => hK w' ⟨by simp, by simp, hown, fun a e => (hown.lt a.block (by injection e with e; subst e; rfl)).2⟩ ((Below.refl _ _).grown hg (Nat.le_refl _) (by simp))
end Go.Proofs.YthhmhcmlbpdlbaaGreat.C09N
