/- Rows of structs with memory of their own: a cell of an element is written; what an element owns is changed; an element is stored. -/
import Derived.Test.YthhmhcmlbpdlbaaGreatRep
import Derived.OwnWalk
namespace Go.Proofs.YthhmhcmlbpdlbaaGreat.RW
open Go.RowKit Mem MemS Rep RepA
set_option linter.unusedVariables false
set_option maxRecDepth 100000
theorem flat_set {k : Nat} {v : Value} : ∀ {raw : List (List Value)} {i j : Nat} {cs : List Value}, (∀ cs ∈ raw, cs.length = k) → raw[i]? = some cs → j < k → raw.flatten.set (i * k + j) v = (raw.set i (cs.set j v)).flatten
  | [], i, j, cs, _, h, _ => by simp at h
  | x :: r, 0, j, cs, hl, h, hj => by
    simp at h
    subst h
    have hx := hl x (by simp)
    rw [Nat.zero_mul, Nat.zero_add, List.flatten_cons, List.set_append_left _ _ (by omega)]
    simp
  | x :: r, i + 1, j, cs, hl, h, hj => by
    have hx := hl x (by simp)
    have ih := flat_set (v := v) (raw := r) (i := i) (j := j) (cs := cs) (fun c hc => hl c (by simp [hc])) (by simpa using h) hj
    have e : (i + 1) * k + j - x.length = i * k + j := by rw [Nat.succ_mul, hx]; omega
    rw [List.flatten_cons, List.set_append_right _ _ (by rw [Nat.succ_mul, hx]; omega), e, ih]
    simp
def over : List Value → Nat → List Value → List Value
  | cs, _, [] => cs
  | cs, j, v :: r => over (cs.set j v) (j + 1) r
theorem over_eq : ∀ (r cs : List Value) (j : Nat), j + r.length ≤ cs.length → over cs j r = cs.take j ++ (r ++ cs.drop (j + r.length))
  | [], cs, j, _ => by simp [over]
  | v :: r, cs, j, h => by
    simp only [List.length_cons] at h
    rw [over, over_eq r _ _ (by simp; omega)]
    have hj : j < cs.length := by omega
    rw [List.take_succ_eq_append_getElem (by simpa using hj), List.take_set, List.set_eq_of_length_le (by simp; omega), List.getElem_set_self, List.drop_set, if_pos (by omega)]
    simp only [List.length_cons, List.append_assoc, List.cons_append, List.nil_append]
    rw [show j + 1 + r.length = j + (r.length + 1) by omega]
theorem over_all {cs r : List Value} (h : r.length = cs.length) : over cs 0 r = r := by
  rw [over_eq r cs 0 (by omega)]
  simp [h]
section
variable {α : Type} {R : Rep α} {w w' w'' : World} {F F' : List Nat} {raw : List (List Value)} {zs : List α} {A : Option Addr} {n c lo hi B : Nat}
theorem els_split (h : Els R w F raw zs) : ∀ {i : Nat} {z : α}, zs[i]? = some z → ∃ F1 Fi F2 cs, F = F1 ++ (Fi ++ F2) ∧ raw[i]? = some cs ∧ R.own w Fi cs z ∧
    ∀ (w' : World) F' cs' z', (∀ b, b ∈ F1 ∨ b ∈ F2 → b < w.heap.size → w'.heap[b]? = w.heap[b]?) → R.own w' F' cs' z' → Els R w' (F1 ++ (F' ++ F2)) (raw.set i cs') (zs.set i z') := by
  induction h with
  | nil =>
    intro i z hz
    simp at hz
  | @cons Fa Fb cs0 raw z0 zs h1 h2 ih =>
    intro i z hz
    cases i with
    | zero =>
      simp at hz
      subst hz
      refine ⟨[], Fa, Fb, cs0, by simp, by simp, h1, fun w' F' cs' z' hk ho => ?_⟩
      simp only [List.nil_append, List.set_cons_zero]
      exact .cons ho (h2.keep fun b hb hw => hk b (.inr hb) hw)
    | succ i =>
      obtain ⟨F1, Fi, F2, cs, rfl, h3, h4, h5⟩ := ih (by simpa using hz)
      refine ⟨Fa ++ F1, Fi, F2, cs, by simp, by simpa using h3, h4, fun w' F' cs' z' hk ho => ?_⟩
      rw [List.append_assoc]
      simp only [List.set_cons_succ]
      exact .cons (R.okeep h1 fun b hb hw => hk b (.inl (List.mem_append_left _ hb)) hw) (h5 w' F' cs' z' (fun b hb hw => hk b (hb.imp (fun h => List.mem_append_right _ h) id) hw) ho)
theorem row_keep {e : TypeId} {k : Nat} {xs : List Value} {g : Nat} (h : w.ownsRow lo e k (.slice (some ⟨g, 0, none⟩) n c) n xs) (hk : w'.heap[g]? = w.heap[g]?) : w'.ownsRow lo e k (.slice (some ⟨g, 0, none⟩) n c) n xs := by
  refine ⟨h.1, ?_⟩
  rcases h.2 with hn | ⟨g', cap, cur, e1, h2, h3, r⟩
  · exact .inl hn
  · injection e1 with e1 e2 e3
    injection e1 with e1
    injection e1 with e1
    subst e1 e3
    exact .inr ⟨g, c, cur, rfl, h2, by rw [hk]; exact h3, r⟩
theorem row_over {e : TypeId} {k g i : Nat} : ∀ (r : List Value) (j : Nat) (w : World) (raw : List (List Value)) (cs : List Value), (∀ cs ∈ raw, cs.length = k) → raw[i]? = some cs → j + r.length ≤ k → w.ownsRow lo e k (.slice (some ⟨g, 0, none⟩) n c) n raw.flatten →
    (w.setCells g (i * k + j) r).ownsRow lo e k (.slice (some ⟨g, 0, none⟩) n c) n (raw.set i (over cs j r)).flatten ∧ (∀ b, b ≠ g → (w.setCells g (i * k + j) r).heap[b]? = w.heap[b]?) ∧ (w.setCells g (i * k + j) r).heap.size = w.heap.size
  | [], j, w, raw, cs, hl, hi, hj, h => by
    refine ⟨?_, fun b hb => rfl, rfl⟩
    have e : raw.set i cs = raw := by
      obtain ⟨h1, rfl⟩ := List.getElem?_eq_some_iff.1 hi
      exact List.set_getElem_self h1
    rw [over, e]
    exact h
  | v :: r, j, w, raw, cs, hl, hi, hj, h => by
    simp only [List.length_cons] at hj
    have h1 := (h.stored (i * k + j) v).1
    rw [flat_set hl hi (by omega)] at h1
    have hil := (List.getElem?_eq_some_iff.1 hi).1
    have hlc : (cs.set j v).length = k := by
      rw [List.length_set]
      exact hl cs (List.mem_of_getElem? hi)
    obtain ⟨h2, h3, h4⟩ := row_over r (j + 1) _ (raw.set i (cs.set j v)) (cs.set j v) (fun c hc => by
      rcases List.mem_or_eq_of_mem_set hc with hc | rfl
      · exact hl c hc
      · exact hlc) (List.getElem?_set_self hil) (by omega) h1
    rw [List.set_set] at h2
    exact ⟨h2, fun b hb => (h3 b hb).trans (Below.heap_setCell w _ v b hb), h4.trans (by simp [World.setCell])⟩
/-- one element of a row of the call's own -/
theorem elem [Inhabited α] (h : Owns R w lo hi A n c zs) {i : Nat} (hi' : i < n) :
    ∃ g cs Fi, A = some ⟨g, 0, none⟩ ∧ lo ≤ g ∧ g < hi ∧ R.own w Fi cs (zs.getD i default) ∧ Fi.Nodup ∧ (∀ b, b ∈ Fi → lo ≤ b ∧ b < hi ∧ b ≠ g) ∧
    (∀ j, j < R.n → w.cell? ⟨g, i * R.n + j, none⟩ = cs[j]? ∧ w.frozen? ⟨g, i * R.n + j, none⟩ = false) ∧
    (∀ j v z', j < R.n → R.own w Fi (cs.set j v) z' → Owns R (w.setCell ⟨g, i * R.n + j, none⟩ v) lo hi A n c (zs.set i z')) ∧
    (∀ w' z', (∀ b, b < w.heap.size → lo ≤ b → b < hi → b ∉ Fi → w'.heap[b]? = w.heap[b]?) → R.own w' Fi cs z' → Owns R w' lo hi A n c (zs.set i z')) ∧
    (∀ hi2 F' cs' z', hi ≤ hi2 → R.own w F' cs' z' → F'.Nodup → (∀ b, b ∈ F' → hi ≤ b ∧ b < hi2) → Owns R (w.setCells g (i * R.n) cs') lo hi2 A n c (zs.set i z')) := by
  obtain ⟨F, ⟨raw, Fe, h1, rfl, h3, h4⟩, hnd, hF⟩ := h.has
  have hil : i < zs.length := by rw [h1]; exact hi'
  have hg : zs.getD i default = zs[i] := by simp [List.getD, hil]
  obtain ⟨F1, Fi, F2, cs, rfl, h5, h6, h7⟩ := els_split h4 (List.getElem?_eq_getElem hil)
  rw [hg]
  have hA : ∃ g, A = some ⟨g, 0, none⟩ := by
    rcases h3.2 with ⟨_, h0⟩ | ⟨g, cap, cur, e, _⟩
    · omega
    · injection e with e
      exact ⟨g, e⟩
  obtain ⟨g, rfl⟩ := hA
  have hgF := hF g (List.mem_append_left _ (by simp [blk]))
  have hnd2 := List.nodup_append.1 hnd
  have hn1 := List.nodup_append.1 hnd2.2.1
  have hn2 := List.nodup_append.1 hn1.2.1
  have hne : ∀ b, b ∈ F1 ++ (Fi ++ F2) → b ≠ g := fun b hb e => hnd2.2.2 g (by simp [blk]) b hb e.symm
  have hl := R.len (R.ord h6)
  have hrng : ∀ b, b ∈ F1 ++ (Fi ++ F2) → lo ≤ b ∧ b < hi := fun b hb => hF b (List.mem_append_right _ hb)
  refine ⟨g, cs, Fi, rfl, hgF.1, hgF.2, h6, hn2.1, fun b hb => ⟨(hrng b (by simp [hb])).1, (hrng b (by simp [hb])).2, hne b (by simp [hb])⟩, fun j hj => ⟨?_, h3.frozenAt _⟩, fun j v z' hj ho => ?_, fun w' z' hk ho => ?_, fun hi2 F' cs' z' hh ho hnF hF' => ?_⟩
  · have hf := flat_get h4.clen h5 hj
    have hu : cs[j]? = some (cs[j]'(by omega)) := List.getElem?_eq_getElem (by omega)
    have := h3.cells (g := g) rfl (i * R.n + j) (cs[j]'(by omega)) (by rw [hf, hu])
    rw [add_none, Nat.zero_add] at this
    rw [this, hu]
  · have hs := (h3.stored (i * R.n + j) v).1
    rw [flat_set h4.clen h5 hj] at hs
    refine ⟨_, ⟨raw.set i (cs.set j v), _, by simpa using h1, rfl, hs, h7 _ Fi _ z' (fun b hb _ => Below.heap_setCell w _ v b (hne b (by rcases hb with hb | hb <;> simp [hb]))) (R.okeep ho fun b hb _ => Below.heap_setCell w _ v b (hne b (by simp [hb])))⟩, hnd, hF⟩
  · have hkk : ∀ b, b ∈ blk (some (⟨g, 0, none⟩ : Addr)) ++ (F1 ++ (Fi ++ F2)) → b ∉ Fi → b < w.heap.size → w'.heap[b]? = w.heap[b]? := fun b hb hnb hw => hk b hw (hF b hb).1 (hF b hb).2 hnb
    have hgs : g < w.heap.size := (h3.lt g (by simp [Value.ownBlock])).2
    have hraw : raw.set i cs = raw := by
      obtain ⟨h8, rfl⟩ := List.getElem?_eq_some_iff.1 h5
      exact List.set_getElem_self h8
    have h8 := h7 w' Fi cs z' (fun b hb hw => hkk b (by rcases hb with hb | hb <;> simp [hb]) (fun hbi => by
      rcases hb with hb | hb
      · exact hn1.2.2 b hb b (by simp [hbi]) rfl
      · exact hn2.2.2 b hbi b hb rfl) hw) ho
    rw [hraw] at h8
    exact ⟨_, ⟨raw, _, by simpa using h1, rfl, row_keep h3 (hkk g (by simp [blk]) (fun hb => hne g (by simp [hb]) rfl) hgs), h8⟩, hnd, hF⟩
  · have hlc' := R.len (R.ord ho)
    obtain ⟨h8, h9, _⟩ := row_over cs' 0 w raw cs h4.clen h5 (by omega) h3
    rw [Nat.add_zero, over_all (by omega)] at h8
    rw [Nat.add_zero] at h9
    have hgh : ∀ b, b ∈ F' → b ≠ g := fun b hb e => by
      have := (hF' b hb).1
      omega
    have h10 := h7 (w.setCells g (i * R.n) cs') F' cs' z' (fun b hb _ => h9 b (hne b (by rcases hb with hb | hb <;> simp [hb]))) (R.okeep ho fun b hb _ => h9 b (hgh b hb))
    have hold : ∀ b, b ∈ F1 ∨ b ∈ F2 → b < hi := fun b hb => (hrng b (by rcases hb with hb | hb <;> simp [hb])).2
    refine ⟨_, ⟨raw.set i cs', _, by simpa using h1, rfl, h8, h10⟩, ?_, fun b hb => ?_⟩
    · refine List.nodup_append.2 ⟨by simp [blk], List.nodup_append.2 ⟨hn1.1, List.nodup_append.2 ⟨hnF, hn2.2.1, fun a ha b hb e => ?_⟩, fun a ha b hb e => ?_⟩, fun a ha b hb e => ?_⟩
      · have := (hF' a ha).1
        have := hold b (.inr hb)
        omega
      · rcases List.mem_append.1 hb with hb | hb
        · have := (hF' b hb).1
          have := hold a (.inl ha)
          omega
        · exact hn1.2.2 a ha b (by simp [hb]) e
      · have ea : a = g := by simpa [blk] using ha
        subst ea
        rcases List.mem_append.1 hb with hb | hb
        · exact hne b (by simp [hb]) e.symm
        · rcases List.mem_append.1 hb with hb | hb
          · exact hgh b hb e.symm
          · exact hne b (by simp [hb]) e.symm
    · rcases List.mem_append.1 hb with hb | hb
      · have ea : b = g := by simpa [blk] using hb
        omega
      · rcases List.mem_append.1 hb with hb | hb
        · have := hrng b (by simp [hb])
          omega
        · rcases List.mem_append.1 hb with hb | hb
          · have := hF' b hb
            omega
          · have := hrng b (by simp [hb])
            omega
theorem els_rep {cs : List Value} {dz : α} (h : R.own w [] cs dz) : ∀ n, Els R w [] (List.replicate n cs) (List.replicate n dz)
  | 0 => .nil
  | n + 1 => Els.cons (F1 := []) (F2 := []) h (els_rep h n)
/-- 'make([]T, n)' -/
theorem wp_makeR {ops : Array Oper} {rest : List Oper} {o : Oper} {a : Act} {P : Exit → Act → World → Prop} {st : TypeId} {dz : α} (R : Rep α) (ti : Ti R st) {z : Value} (hz0 : (Tryz.prog.info? R.ty).bind (·.zero) = some z)
    (hz : ∀ w, R.own w [] z.cells.toList dz) (hgd : o.guard = none) (l c : Operand) (ho : o.op = Op.makeSlice st l c)
    (hl : a.eval l = .int .i64 n) (hc : a.eval c = .int .i64 n) (hb : n ≤ 68719476736)
    (hK : ∀ w', Owns R w' w.heap.size w'.heap.size (some ⟨w.heap.size, 0, none⟩) n n (List.replicate n dz) → Below w.heap.size w w' → wpList Tryz.prog ops P rest (a.put o.dst (.slice (some ⟨w.heap.size, 0, none⟩) n n)) w') :
    wpList Tryz.prog ops P (o :: rest) a w := by
  obtain ⟨hu, hk, i, z2, h1, h2, hzc, h3, h4⟩ := ti
  have ez : z2 = z := by
    rw [h1] at hz0
    simp [h2] at hz0
    exact hz0
  subst ez
  have hbb : i.bytes * n ≤ 1024 * n := Nat.mul_le_mul_right _ h4
  have hfl : z2.cells.toList.length = R.n := R.len (R.ord (hz w))
  refine wpList_make_full w hgd l c st ho w.heap.size R.ty i z2 R.n hu h1 h2 h3 .i64 .i64 n n n hl hc rfl rfl (by omega) (by simp only [maxLen]; omega) (Nat.le_refl _) fun w' hown hg => hK w' ⟨[w.heap.size], ⟨List.replicate n z2.cells.toList, [], by simp, by simp [blk], ?_, els_rep (hz w') n⟩, by simp, ?_⟩ ((Below.refl _ _).grown hg (Nat.le_refl _) (by simp))
  · have e : (madeCells z2.cells (n * R.n)).toList = (List.replicate n z2.cells.toList).flatten := by
      have hcl : ∀ cs ∈ List.replicate n z2.cells.toList, cs.length = R.n := fun cs hcs => by
        rw [(List.mem_replicate.1 hcs).2]
        exact hfl
      have hlen : (List.replicate n z2.cells.toList).flatten.length = n * R.n := by rw [flat_len hcl]; simp
      apply List.ext_getElem?
      intro j
      by_cases hj : j < n * R.n
      · have hjk : j / R.n < n := (Nat.div_lt_iff_lt_mul hk).2 hj
        have hjm : j % R.n < R.n := Nat.mod_lt _ hk
        have h5 := flat_get (raw := List.replicate n z2.cells.toList) (i := j / R.n) (j := j % R.n) (cs := z2.cells.toList) hcl (by simp [hjk]) hjm
        rw [Nat.mul_comm, Nat.div_add_mod] at h5
        rw [h5]
        simp [madeCells, hj, hzc, hjm]
      · rw [List.getElem?_eq_none (by rw [Array.length_toList, size_madeCells]; omega), List.getElem?_eq_none (by omega)]
    rw [← e]
    exact row_base hown fun a e => Nat.zero_le _
  · intro b hb
    rw [List.mem_singleton.1 hb]
    exact ⟨Nat.le_refl _, (hown.lt w.heap.size (by rfl)).2⟩
/-- 'append(s, y...)' of two rows of the call's own: what y's elements own goes over -/
theorem run_catR {A2 : Option Addr} {m c2 mid : Nat} {ys : List α} {st : TypeId} (ti : Ti R st) (h : Owns R w lo mid A n c zs) (h' : Owns R w mid hi A2 m c2 ys) (hb : n + m ≤ 68719476736) (hlo : lo ≤ mid) (hw : lo ≤ w.heap.size) (ty : TypeId) :
    ∃ A' c' w', (Builtin.append_ #[st, st] ty #[.slice A n c, .slice A2 m c2]).run Tryz.prog w = .ok (.slice A' (n + m) c') w' ∧ Owns R w' lo w'.heap.size A' (n + m) c' (zs ++ ys) ∧ Gr A w A' w' := by
  obtain ⟨F, ⟨raw, Fe, h1, rfl, h3, h4⟩, hnd, hF⟩ := h.has
  obtain ⟨F2, ⟨raw2, Fe2, k1, rfl, k3, k4⟩, knd, kF⟩ := h'.has
  have hr : RowR R w A n c raw := ⟨by rw [h4.len, h1], h4.clen, h3⟩
  have hs : Src R w A2 m raw2 := by
    refine ⟨by rw [k4.len, k1], k4.clen, fun cs hcs u hu => ?_, fun hm => ?_⟩
    · obtain ⟨i, hi⟩ := List.mem_iff_getElem?.1 hcs
      have hil : i < ys.length := by rw [← k4.len]; exact (List.getElem?_eq_some_iff.1 hi).1
      obtain ⟨cs', Fi, q1, _, q3⟩ := k4.get i _ (List.getElem?_eq_getElem hil)
      rw [hi] at q1
      injection q1 with q1
      subst q1
      exact R.one (R.ord q3) u hu
    · rcases k3.2 with ⟨_, h5⟩ | ⟨g, cap, cur, e, h5, h6, h7⟩
      · omega
      · injection e with e1 e2 e3
        subst e1
        refine ⟨g, 0, rfl, fun i cs hi j hj => ?_⟩
        have hf := flat_get k4.clen hi hj
        have hl := k4.clen cs (List.mem_of_getElem? hi)
        have hu : cs[j]? = some (cs[j]'(by omega)) := List.getElem?_eq_getElem (by omega)
        have := k3.cells (g := g) rfl (i * R.n + j) (cs[j]'(by omega)) (by rw [hf, hu])
        rw [add_none] at this
        rw [this, hu]
  obtain ⟨A', c', w', hrun, h5, h6⟩ := run_appR ti hr hs hb ty (c2 := c2)
  refine ⟨A', c', w', hrun, ⟨?_⟩, h6⟩
  have hkept : ∀ i, i < w.heap.size → i ∉ blk A → w'.heap[i]? = w.heap[i]? := fun i hi hn => Gr.kept h6 hi fun a e hne => hn (by subst e; simp [blk, hne])
  have hne : ∀ i, i ∈ Fe → i ∉ blk A := fun i hi hA => (List.nodup_append.1 hnd).2.2 i hA i hi rfl
  have hnx : ∀ i, i ∈ Fe2 → i ∉ blk A := fun i hi hA => by
    have h7 := (hF i (List.mem_append_left _ hA)).2
    have h8 := (kF i (List.mem_append_right _ hi)).1
    omega
  have e1 : Els R w' Fe raw zs := h4.keep fun i hi hw => hkept i hw (hne i hi)
  have e2 : Els R w' Fe2 raw2 ys := k4.keep fun i hi hw => hkept i hw (hnx i hi)
  have hsz : w.heap.size ≤ w'.heap.size := h6.1.size
  have hblk : ∀ b, b ∈ blk A' → b ∈ blk A ∨ w.heap.size ≤ b := blk_new h6
  have hltA : ∀ b, b ∈ blk A' → b < w'.heap.size := fun b hb => by
    cases A' with
    | none => cases hb
    | some a =>
      have e : b = a.block := by simpa [blk] using hb
      subst e
      exact (h5.row.lt a.block (by simp [Value.ownBlock])).2
  have hltF : ∀ i, i ∈ Fe → i < w.heap.size := h4.olt
  have hltX : ∀ i, i ∈ Fe2 → i < w.heap.size := k4.olt
  refine ⟨blk A' ++ (Fe ++ Fe2), ⟨raw ++ raw2, Fe ++ Fe2, by simp [h1, k1], rfl, h5.row, e1.append e2⟩, ?_, fun b hb => ?_⟩
  · have n1 := List.nodup_append.1 hnd
    have n2 := List.nodup_append.1 knd
    refine List.nodup_append.2 ⟨?_, List.nodup_append.2 ⟨n1.2.1, n2.2.1, fun i hi j hj e => ?_⟩, fun i hi j hj e => ?_⟩
    · cases A' <;> simp [blk]
    · subst e
      have h7 := (hF i (List.mem_append_right _ hi)).2
      have h8 := (kF i (List.mem_append_right _ hj)).1
      omega
    · subst e
      rcases hblk i hi with h | h
      · rcases List.mem_append.1 hj with hj | hj
        · exact hne i hj h
        · exact hnx i hj h
      · rcases List.mem_append.1 hj with hj | hj
        · have := hltF i hj
          omega
        · have := hltX i hj
          omega
  · rcases List.mem_append.1 hb with hb | hb
    · refine ⟨?_, hltA b hb⟩
      rcases hblk b hb with h | h
      · exact (hF b (List.mem_append_left _ h)).1
      · omega
    · rcases List.mem_append.1 hb with hb | hb
      · exact ⟨(hF b (List.mem_append_right _ hb)).1, by have := hltF b hb; omega⟩
      · exact ⟨by have := (kF b (List.mem_append_right _ hb)).1; omega, by have := hltX b hb; omega⟩
theorem step_catR {A2 : Option Addr} {m c2 mid : Nat} {ys : List α} {st : TypeId} {ops : Array Oper} {o : Oper} {a : Act} {K : Act → World → Prop} {Q : Exit → Act → World → Prop} {E : Prop} (R : Rep α) (ti : Ti R st) (hgd : Region.wanted o (yielded ops a.tmps) = true) (s x : Operand)
    (ho : o.op = .call { callee := .builtin .append, args := #[s, x], argTypes := #[st, st] })
    (hs : a.eval s = .slice A n c) (h : Owns R w lo mid A n c zs) (hx : a.eval x = .slice A2 m c2) (h' : Owns R w mid hi A2 m c2 ys) (hb : n + m ≤ 68719476736) (hlo : lo ≤ mid) (hw : lo ≤ w.heap.size)
    (hK : ∀ A' c' w', Owns R w' lo w'.heap.size A' (n + m) c' (zs ++ ys) → Gr A w A' w' → K (a.put o.dst (.slice A' (n + m) c')) w') :
    if Region.wanted o (yielded ops a.tmps) = true then Oper.wp Tryz.prog o a w K Q else E := by
  rw [if_pos hgd]
  obtain ⟨A', c', w', hrun, h1, h2⟩ := run_catR ti h h' hb hlo hw o.type
  unfold Oper.wp execOp
  simp only [ho, resolve, invoke, builtin, Sem.run_bind, Sem.run_pure, Result.andThen_ok, List.map_toArray, List.map_cons, List.map_nil, hs, hx, hrun]
  exact hK _ _ _ h1 h2
/-- a part of a row that is read -/
theorem part_rds {b off i j : Nat} {P : Nat → Prop} (h : Rds R w P (some ⟨b, off, none⟩) n zs) (hij : i ≤ j) (hj : j ≤ n) : Rds R w P (some ⟨b, off + i * R.n, none⟩) (j - i) ((zs.take j).drop i) := by
  refine ⟨by simp [h.len]; omega, fun hn => ?_⟩
  obtain ⟨b', off', e, hlt, hc⟩ := h.cells (by omega)
  injection e with e
  injection e with e1 e2 e3
  subst e1 e2
  refine ⟨_, _, rfl, hlt, fun t z hz => ?_⟩
  rw [List.getElem?_drop, List.getElem?_take] at hz
  split at hz
  · obtain ⟨cs, h1, h2⟩ := hc (i + t) z hz
    refine ⟨cs, h1, fun k hk => ?_⟩
    rw [← h2 k hk]
    congr 2
    rw [Nat.add_mul]
    omega
  · cases hz
theorem copy_setR {d : α} {n j : Nat} {zs : List α} [Inhabited α] (hl : zs.length = n) (hj : j < n) : (zs.take j ++ List.replicate (n - j) d).set j (zs.getD j default) = zs.take (j + 1) ++ List.replicate (n - (j + 1)) d := by
  have hm : (zs.take j).length = j := by simp; omega
  rw [List.set_append_right _ _ (by omega), hm, Nat.sub_self]
  rw [show n - j = (n - (j + 1)) + 1 by omega, List.replicate_succ, List.set_cons_zero, List.take_succ_eq_append_getElem (show j < zs.length by omega)]
  simp only [List.getD, List.getElem?_eq_getElem (show j < zs.length by omega), Option.getD_some, List.append_assoc, List.cons_append, List.nil_append]
end
/-! marks of a whole row: full counts an element's places, mk marks them from q on -/
section
variable {α : Type} (full : α → Nat) (mk : Int → α → α)
def cntR (zs : List α) : Nat := (zs.map full).sum
def mkR : Int → List α → List α
  | _, [] => []
  | q, z :: r => mk q z :: mkR (q + full z) r
theorem mkR_len : ∀ (q : Int) (zs : List α), (mkR full mk q zs).length = zs.length
  | _, [] => rfl
  | q, z :: r => by simp [mkR, mkR_len]
theorem cntR_snoc [Inhabited α] {zs : List α} {j : Nat} (hj : j < zs.length) : cntR full (zs.take (j + 1)) = cntR full (zs.take j) + full (zs.getD j default) := by
  unfold cntR
  rw [List.take_succ_eq_append_getElem hj, List.map_append, List.sum_append]
  simp only [List.getD, List.getElem?_eq_getElem hj, Option.getD_some, List.map_cons, List.map_nil, List.sum_cons, List.sum_nil, Nat.add_zero]
theorem cntR_take (zs : List α) (j : Nat) : cntR full (zs.take j) ≤ cntR full zs := by
  unfold cntR
  have h := congrArg (fun l => (l.map full).sum) (List.take_append_drop j zs)
  simp only [List.map_append, List.sum_append] at h
  omega
theorem mkR_append : ∀ (q : Int) (xs ys : List α), mkR full mk q (xs ++ ys) = mkR full mk q xs ++ mkR full mk (q + cntR full xs) ys
  | q, [], ys => by simp [mkR, cntR]
  | q, x :: xs, ys => by
    simp only [List.cons_append, mkR, mkR_append (q + full x) xs ys]
    rw [show q + full x + (cntR full xs : Int) = q + (cntR full (x :: xs) : Int) by simp [cntR]; omega]
theorem mkR_set [Inhabited α] {q : Int} {zs : List α} {j : Nat} (hj : j < zs.length) :
    (mkR full mk q (zs.take j) ++ zs.drop j).set j (mk (q + cntR full (zs.take j)) (zs.getD j default)) = mkR full mk q (zs.take (j + 1)) ++ zs.drop (j + 1) := by
  have hm : (mkR full mk q (zs.take j)).length = j := by rw [mkR_len]; simp; omega
  rw [List.set_append_right _ _ (by omega), hm, Nat.sub_self, List.drop_eq_getElem_cons hj, List.set_cons_zero, List.take_succ_eq_append_getElem hj, mkR_append]
  simp [mkR, List.getD, hj]
theorem mkR_at [Inhabited α] {q : Int} {zs : List α} {j : Nat} (hj : j < zs.length) : (mkR full mk q (zs.take j) ++ zs.drop j).getD j default = zs.getD j default := by
  have hm : (mkR full mk q (zs.take j)).length = j := by rw [mkR_len]; simp; omega
  simp only [List.getD]
  rw [List.getElem?_append_right (by omega), hm, Nat.sub_self, List.getElem?_drop, Nat.add_zero]
theorem mkR_get [Inhabited α] {q : Int} {zs : List α} {j : Nat} (hj : j < zs.length) : (mkR full mk q zs).getD j default = mk (q + cntR full (zs.take j)) (zs.getD j default) := by
  have h := mkR_append full mk q (zs.take j) (zs.drop j)
  rw [List.take_append_drop] at h
  rw [h]
  have hm : (mkR full mk q (zs.take j)).length = j := by rw [mkR_len]; simp; omega
  simp only [List.getD]
  rw [List.getElem?_append_right (by omega), hm, Nat.sub_self, List.drop_eq_getElem_cons hj]
  simp [mkR, hj]
theorem mkR_end {q : Int} {zs : List α} {n : Nat} (hl : zs.length = n) : mkR full mk q (zs.take n) ++ zs.drop n = mkR full mk q zs := by
  subst hl
  simp
end
/-! sizes of rows -/
section
variable {α : Type} (tot : α → Nat)
def totR (zs : List α) : Nat := zs.length + (zs.map tot).sum
theorem totR_len (zs : List α) : zs.length ≤ totR tot zs := Nat.le_add_right _ _
theorem sumR_snoc [Inhabited α] {zs : List α} {j : Nat} (hj : j < zs.length) : ((zs.take (j + 1)).map tot).sum = ((zs.take j).map tot).sum + tot (zs.getD j default) := by
  rw [List.take_succ_eq_append_getElem hj, List.map_append, List.sum_append]
  simp only [List.getD, List.getElem?_eq_getElem hj, Option.getD_some, List.map_cons, List.map_nil, List.sum_cons, List.sum_nil, Nat.add_zero]
theorem sumR_take (zs : List α) (j : Nat) : ((zs.take j).map tot).sum ≤ (zs.map tot).sum := by
  have h := congrArg (fun l => (l.map tot).sum) (List.take_append_drop j zs)
  simp only [List.map_append, List.sum_append] at h
  omega
theorem totR_mem [Inhabited α] {zs : List α} {j : Nat} (hj : j < zs.length) : tot (zs.getD j default) ≤ totR tot zs := by
  have h1 := sumR_snoc tot hj
  have h2 := sumR_take tot zs (j + 1)
  unfold totR
  omega
theorem cntR_le (full : α → Nat) (h : ∀ z, full z ≤ 16 * (tot z + 1)) : ∀ zs : List α, cntR full zs ≤ 16 * totR tot zs
  | [] => by simp [cntR]
  | z :: r => by
    have h1 := cntR_le full h r
    have h2 := h z
    unfold cntR totR at *
    simp only [List.map_cons, List.sum_cons, List.length_cons]
    omega
end
end Go.Proofs.YthhmhcmlbpdlbaaGreat.RW
