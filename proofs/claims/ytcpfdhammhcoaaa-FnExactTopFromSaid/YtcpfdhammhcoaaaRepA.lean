/- Appends, writes and makes of rows of any data. -/
import Derived.Test.YtcpfdhammhcoaaaRep
import Derived.Maps.AppendAt
import Derived.OwnWalk
namespace Go.Proofs.Ytcpfdhammhcoaaa.RepA
open Go.RowKit Mem MemS Rep
set_option linter.unusedVariables false
set_option maxRecDepth 100000
section
variable {α : Type} {R : Rep α} {w w' w'' : World} {F F' F1 F2 : List Nat} {raw raw2 : List (List Value)} {zs ys : List α} {P P' : Nat → Prop} {A A' A2 : Option Addr} {n c m c2 lo hi B : Nat} {st : TypeId}
/-- what the model knows of a type and of its slices -/
def Ti (R : Rep α) (st : TypeId) : Prop := Try.prog.underlying st = some (.slice R.ty) ∧ 0 < R.n ∧ ∃ i z, Try.prog.info? R.ty = some i ∧ i.zero = some z ∧ z.cells.size = R.n ∧ i.size = R.n ∧ i.bytes ≤ 1024
/-- a row of the call's own: raw cells -/
structure RowR (R : Rep α) (w : World) (A : Option Addr) (n c : Nat) (raw : List (List Value)) : Prop where
  len : raw.length = n
  clen : ∀ cs ∈ raw, cs.length = R.n
  row : w.ownsRow 0 R.ty R.n (.slice A n c) n raw.flatten
/-- raw cells that can be read -/
structure Src (R : Rep α) (w : World) (A : Option Addr) (n : Nat) (raw : List (List Value)) : Prop where
  len : raw.length = n
  clen : ∀ cs ∈ raw, cs.length = R.n
  one : ∀ cs ∈ raw, ∀ u ∈ cs, u.oneCell' = true
  cells : 0 < n → ∃ b off, A = some ⟨b, off, none⟩ ∧ ∀ (i : Nat) cs, raw[i]? = some cs → ∀ j, j < R.n → w.cell? ⟨b, off + (i * R.n + j), none⟩ = cs[j]?
theorem Src.keep (h : Src R w A n raw) (hk : ∀ a, A = some a → w'.heap[a.block]? = w.heap[a.block]?) : Src R w' A n raw :=
  ⟨h.len, h.clen, h.one, fun hn => by
    obtain ⟨b, off, e, hc⟩ := h.cells hn
    exact ⟨b, off, e, fun i cs hi j hj => (World.cell?_of_block (a := ⟨b, off + (i * R.n + j), none⟩) (by have := hk _ e; exact this)).trans (hc i cs hi j hj)⟩⟩
theorem Rds.src (h : Rds R w P A n zs) : ∃ raw, Src R w A n raw ∧ ∀ (i : Nat) z, zs[i]? = some z → ∃ cs, raw[i]? = some cs ∧ R.rd w P cs z := by
  rcases Nat.eq_zero_or_pos n with h0 | h0
  · subst h0
    refine ⟨[], ⟨rfl, by simp, by simp, fun h => absurd h (by omega)⟩, fun i z hz => ?_⟩
    rw [List.eq_nil_of_length_eq_zero h.len] at hz
    simp at hz
  · obtain ⟨b, off, rfl, hlt, hc⟩ := h.cells h0
    have hch : ∀ z : {i : Nat // i < zs.length}, ∃ cs, R.rd w P cs zs[z.1] ∧ ∀ j, j < R.n → w.cell? ⟨b, off + (z.1 * R.n + j), none⟩ = cs[j]? := fun z => hc z.1 _ (by simp)
    let g : Nat → List Value := fun i => if hi : i < zs.length then (hch ⟨i, hi⟩).choose else []
    have hg : ∀ i, (hi : i < zs.length) → R.rd w P (g i) zs[i] ∧ ∀ j, j < R.n → w.cell? ⟨b, off + (i * R.n + j), none⟩ = (g i)[j]? := fun i hi => by
      simp only [g, hi, dif_pos]
      exact (hch ⟨i, hi⟩).choose_spec
    have hget : ∀ i cs, ((List.range n).map g)[i]? = some cs → i < n ∧ cs = g i := fun i cs h => by
      have hi : i < n := by
        have := (List.getElem?_eq_some_iff.1 h).1
        simpa using this
      rw [List.getElem?_map, List.getElem?_range hi] at h
      simp at h
      exact ⟨hi, h.symm⟩
    have hl := h.len
    refine ⟨(List.range n).map g, ⟨by simp, fun cs hcs => ?_, fun cs hcs => ?_, fun _ => ⟨b, off, rfl, fun i cs hi => ?_⟩⟩, fun i z hz => ?_⟩
    · obtain ⟨i, hi⟩ := List.mem_iff_getElem?.1 hcs
      obtain ⟨hin, rfl⟩ := hget i cs hi
      exact R.len (hg i (by omega)).1
    · obtain ⟨i, hi⟩ := List.mem_iff_getElem?.1 hcs
      obtain ⟨hin, rfl⟩ := hget i cs hi
      exact R.one (hg i (by omega)).1
    · obtain ⟨hin, rfl⟩ := hget i cs hi
      exact (hg i (by omega)).2
    · obtain ⟨hi, rfl⟩ := List.getElem?_eq_some_iff.1 hz
      exact ⟨g i, by rw [List.getElem?_map, List.getElem?_range (by omega)]; rfl, (hg i hi).1⟩
theorem flat_inv {k : Nat} (hk : 0 < k) {raw : List (List Value)} (hl : ∀ cs ∈ raw, cs.length = k) {j : Nat} {u : Value} (h : raw.flatten[j]? = some u) : ∃ cs, raw[j / k]? = some cs ∧ cs[j % k]? = some u ∧ j = j / k * k + j % k := by
  have hj : j < raw.length * k := by
    have := (List.getElem?_eq_some_iff.1 h).1
    rwa [flat_len hl] at this
  have hd : j / k < raw.length := Nat.div_lt_of_lt_mul (by rwa [Nat.mul_comm] at hj)
  have hm : j % k < k := Nat.mod_lt _ hk
  have he : j = j / k * k + j % k := by
    have := Nat.div_add_mod j k
    rw [Nat.mul_comm] at this
    omega
  refine ⟨raw[j / k], List.getElem?_eq_getElem hd, ?_, he⟩
  have hf := flat_get hl (List.getElem?_eq_getElem hd) hm
  rw [← he, h] at hf
  exact hf.symm
/-- 'append(s, x...)' -/
theorem run_appR (ti : Ti R st) (h : RowR R w A n c raw) (hs : Src R w A2 m raw2) (hb : n + m ≤ 68719476736) (ty : TypeId) :
    ∃ A' c' w', (Builtin.append_ #[st, st] ty #[.slice A n c, .slice A2 m c2]).run Try.prog w = .ok (.slice A' (n + m) c') w' ∧ RowR R w' A' (n + m) c' (raw ++ raw2) ∧ Gr A w A' w' := by
  obtain ⟨hu, hk, i, z, h1, h2, h3, h4, h5⟩ := ti
  have hob : (Value.slice A n c).ownBlock = A.map (·.block) := by cases A <;> rfl
  rcases A2 with _ | ad
  · have hm : m = 0 := by
      rcases Nat.eq_zero_or_pos m with h0 | h0
      · exact h0
      · obtain ⟨_, _, e, _⟩ := hs.cells h0
        cases e
    subst hm
    have hy : raw2 = [] := List.eq_nil_of_length_eq_zero hs.len
    subst hy
    refine ⟨A, c, w, ?_, by simpa using h, Gr.refl _ _⟩
    rcases h.row.2 with ⟨h6, h7⟩ | ⟨g, cap, cur, h6, _, _, h7, _⟩
    · injection h6 with e1 e2 e3
      subst e1 e2 e3
      simp [Builtin.append_, run_underlying hu, sizeOf, typeInfo, h1, Builtin.lenOf, Builtin.firstCells]
    · injection h6 with e1 e2 e3
      subst e1 e3
      simp [Builtin.append_, run_underlying hu, sizeOf, typeInfo, h1, Builtin.lenOf, Builtin.firstCells, h7, storeCells]
  · have hcells : ∀ j u, raw2.flatten[j]? = some u → w.cell? (ad.add j) = some u := fun j u hj => by
      obtain ⟨cs, hc1, hc2, he⟩ := flat_inv hk hs.clen hj
      have hlt : j / R.n < raw2.length := (List.getElem?_eq_some_iff.1 hc1).1
      obtain ⟨b, off, e, hc⟩ := hs.cells (hs.len ▸ Nat.lt_of_le_of_lt (Nat.zero_le _) hlt)
      injection e with e
      subst e
      rw [add_none, he, hc _ _ hc1 _ (Nat.mod_lt _ hk), hc2]
    have hbb : (n + m) * i.bytes ≤ (n + m) * 1024 := Nat.mul_le_mul_left _ h5
    obtain ⟨v', w', hrun, hown, hg, hnil, hat⟩ := run_append_own_at (P := Try.prog) w 0 st ty R.ty i z R.n i.bytes hu h1 h2 h4 rfl h3 hk (.slice A n c) n _ h.row ad m c2 raw2.flatten (by rw [flat_len hs.clen, hs.len]) hcells
      (by intro u hu; obtain ⟨cs, h8, h9⟩ := List.mem_flatten.1 hu; exact hs.one cs h8 u h9) (by simp only [maxLen]; omega) (by omega) (Nat.zero_le _)
    rw [hob] at hg hat
    have hv : ∃ A' c', v' = .slice A' (n + m) c' := by
      rcases hown.2 with ⟨h6, h7⟩ | ⟨g, cap, cur, h6, _⟩
      · exact ⟨none, 0, by rw [h6, h7]⟩
      · exact ⟨_, _, h6⟩
    obtain ⟨A', c', rfl⟩ := hv
    refine ⟨A', c', w', hrun, ⟨by rw [List.length_append, h.len, hs.len], fun cs hcs => ?_, by simpa using hown⟩, hg, fun a e => ?_⟩
    · rcases List.mem_append.1 hcs with hcs | hcs
      · exact h.clen cs hcs
      · exact hs.clen cs hcs
    · subst e
      rcases hat with hat | hat
      · exact .inl (by rw [← hat]; rfl)
      · have : a.block = w.heap.size := by simpa [Value.ownBlock] using hat
        exact .inr (by omega)
theorem wp_appR {ops : Array Oper} {rest : List Oper} {o : Oper} {a : Act} {Q : Exit → Act → World → Prop} (ti : Ti R st) (hgd : Region.wanted o (yielded ops a.tmps) = true) (s x : Operand)
    (ho : o.op = .call { callee := .builtin .append, args := #[s, x], argTypes := #[st, st] })
    (hs : a.eval s = .slice A n c) (h : RowR R w A n c raw) (hx : a.eval x = .slice A2 m c2) (hr : Src R w A2 m raw2) (hb : n + m ≤ 68719476736)
    (hK : ∀ A' c' w', RowR R w' A' (n + m) c' (raw ++ raw2) → Gr A w A' w' → wpList Try.prog ops Q rest (a.put o.dst (.slice A' (n + m) c')) w') :
    wpList Try.prog ops Q (o :: rest) a w := by
  refine wpList_step fun K hK' => ?_
  rw [if_pos hgd]
  obtain ⟨A', c', w', hrun, h1, h2⟩ := run_appR ti h hr hb o.type (c2 := c2)
  unfold Oper.wp execOp
  simp only [ho, resolve, invoke, builtin, Sem.run_bind, Sem.run_pure, Result.andThen_ok, List.map_toArray, List.map_cons, List.map_nil, hs, hx, hrun]
  exact hK' _ _ (hK _ _ _ h1 h2)
theorem step_appR {ops : Array Oper} {o : Oper} {a : Act} {K : Act → World → Prop} {Q : Exit → Act → World → Prop} {E : Prop} (ti : Ti R st) (hgd : Region.wanted o (yielded ops a.tmps) = true) (s x : Operand)
    (ho : o.op = .call { callee := .builtin .append, args := #[s, x], argTypes := #[st, st] })
    (hs : a.eval s = .slice A n c) (h : RowR R w A n c raw) (hx : a.eval x = .slice A2 m c2) (hr : Src R w A2 m raw2) (hb : n + m ≤ 68719476736)
    (hK : ∀ A' c' w', RowR R w' A' (n + m) c' (raw ++ raw2) → Gr A w A' w' → K (a.put o.dst (.slice A' (n + m) c')) w') :
    if Region.wanted o (yielded ops a.tmps) = true then Oper.wp Try.prog o a w K Q else E := by
  rw [if_pos hgd]
  obtain ⟨A', c', w', hrun, h1, h2⟩ := run_appR ti h hr hb o.type (c2 := c2)
  unfold Oper.wp execOp
  simp only [ho, resolve, invoke, builtin, Sem.run_bind, Sem.run_pure, Result.andThen_ok, List.map_toArray, List.map_cons, List.map_nil, hs, hx, hrun]
  exact hK _ _ _ h1 h2
theorem src_new (w : World) {cs : List Value} (hl : cs.length = R.n) (h1 : ∀ u ∈ cs, u.oneCell' = true) (ty : TypeId) : Src R (w.alloc (.cells cs.toArray ty)) (some ⟨w.heap.size, 0, none⟩) 1 [cs] :=
  ⟨rfl, by simpa using hl, by simpa using h1, fun _ => ⟨_, _, rfl, fun i cs' hi j hj => by
    cases i with
    | zero =>
      simp at hi
      subst hi
      rw [World.cell?_alloc_at _ _ _ _ rfl]
      simp
    | succ i => simp at hi⟩⟩
/-- what lies in the blocks F is as it was behind an append onto A -/
theorem Gr.kept (h : Gr A w A' w') {i : Nat} (hi : i < w.heap.size) (hA : ∀ a, A = some a → a.block ≠ i) : w'.heap[i]? = w.heap[i]? :=
  h.1.block i hi fun e => by
    cases A with
    | none => cases e
    | some a =>
      injection e with e
      exact hA a rfl e.symm
theorem blk_new (h : Gr A w A' w') : ∀ b, b ∈ blk A' → b ∈ blk A ∨ w.heap.size ≤ b := by
  intro b hb
  cases A' with
  | none => cases hb
  | some a =>
    have e : b = a.block := by simpa [blk] using hb
    subst e
    rcases h.2 a rfl with h | h
    · cases A with
      | none => cases h
      | some a0 =>
        injection h with h
        exact .inl (by simp [blk, h])
    · exact .inr h
/-- 'append(s, x)': x was laid in a block of its own; s and x are the call's own, apart from each other -/
theorem wp_pushR {ops : Array Oper} {rest : List Oper} {o : Oper} {a : Act} {Q : Exit → Act → World → Prop} (R : Rep α) (ti : Ti R st) (hgd : Region.wanted o (yielded ops a.tmps) = true) (s x : Operand)
    (ho : o.op = .call { callee := .builtin .append, args := #[s, x], argTypes := #[st, st] }) {cs : List Value} {z : α} {mid : Nat}
    (hs : a.eval s = .slice A n c) (h : Owns R w lo mid A n c zs) (hx : a.eval x = .slice (some ⟨w.heap.size, 0, none⟩) 1 1) (hz : OwnI R w mid hi cs z) (hb : n + 1 ≤ 68719476736) (hlo : lo ≤ mid) (hw : lo ≤ w.heap.size)
    (hK : ∀ A' c' w', Owns R w' lo w'.heap.size A' (n + 1) c' (zs ++ [z]) → Gr A w A' w' → wpList Try.prog ops Q rest (a.put o.dst (.slice A' (n + 1) c')) w') :
    wpList Try.prog ops Q (o :: rest) a (w.alloc (.cells cs.toArray R.ty)) := by
  obtain ⟨F, ⟨raw, Fe, h1, rfl, h3, h4⟩, hnd, hF⟩ := h.has
  obtain ⟨Fx, hx1, hx2, hx3⟩ := hz
  have hcl := R.len (R.ord hx1)
  have hr : RowR R (w.alloc (.cells cs.toArray R.ty)) A n c raw := ⟨by rw [h4.len, h1], h4.clen, h3.alloc _⟩
  refine wp_appR ti hgd s x ho hs hr hx (src_new w hcl (R.one (R.ord hx1)) R.ty) hb fun A' c' w' h5 h6 => hK A' c' w' ?_ ⟨?_, fun a e => ?_⟩
  · have hkept : ∀ i, i < w.heap.size → i ∉ blk A → w'.heap[i]? = w.heap[i]? := fun i hi hn => by
      rw [Gr.kept h6 (by simp; omega) fun a e hne => hn (by subst e; simp [blk, hne])]
      exact Below.heap_alloc w _ i hi
    have hne : ∀ i, i ∈ Fe → i ∉ blk A := fun i hi hA => by
      have := (List.nodup_append.1 hnd).2.2 i hA i hi
      exact this rfl
    have hnx : ∀ i, i ∈ Fx → i ∉ blk A := fun i hi hA => by
      have h7 := (hF i (List.mem_append_left _ hA)).2
      have h8 := (hx3 i hi).1
      omega
    have e1 : Els R w' Fe raw zs := h4.keep fun i hi hw => hkept i hw (hne i hi)
    have e2 : Els R w' (Fx ++ []) [cs] [z] := .cons (R.okeep hx1 fun i hi hw => hkept i hw (hnx i hi)) .nil
    rw [List.append_nil] at e2
    have hsz : (w.alloc (.cells cs.toArray R.ty)).heap.size ≤ w'.heap.size := h6.1.size
    have hsz' : w.heap.size + 1 ≤ w'.heap.size := by simpa using hsz
    have hblk : ∀ b, b ∈ blk A' → b ∈ blk A ∨ w.heap.size < b := fun b hb => by
      rcases blk_new h6 b hb with h | h
      · exact .inl h
      · exact .inr (by simp at h; omega)
    have hltA : ∀ b, b ∈ blk A' → b < w'.heap.size := fun b hb => by
      cases A' with
      | none => cases hb
      | some a =>
        have e : b = a.block := by simpa [blk] using hb
        subst e
        exact (h5.row.lt a.block (by simp [Value.ownBlock])).2
    have hltF : ∀ i, i ∈ Fe → i < w.heap.size := h4.olt
    have hltX : ∀ i, i ∈ Fx → i < w.heap.size := R.olt hx1
    refine ⟨blk A' ++ (Fe ++ Fx), ⟨raw ++ [cs], Fe ++ Fx, by simp [h1], rfl, h5.row, e1.append e2⟩, ?_, fun b hb => ?_⟩
    · have n1 := List.nodup_append.1 hnd
      refine List.nodup_append.2 ⟨?_, List.nodup_append.2 ⟨n1.2.1, hx2, fun i hi j hj e => ?_⟩, fun i hi j hj e => ?_⟩
      · cases A' <;> simp [blk]
      · subst e
        have h7 := (hF i (List.mem_append_right _ hi)).2
        have h8 := (hx3 i hj).1
        omega
      · subst e
        rcases hblk i hi with h | h
        · rcases List.mem_append.1 hj with hj | hj
          · exact hne i hj h
          · exact hnx i hj h
        · rcases List.mem_append.1 hj with hj | hj
          · have := hltF i hj
            omega
          · have := hltX i hj
            omega
    · rcases List.mem_append.1 hb with hb | hb
      · refine ⟨?_, hltA b hb⟩
        rcases hblk b hb with h | h
        · exact (hF b (List.mem_append_left _ h)).1
        · omega
      · rcases List.mem_append.1 hb with hb | hb
        · exact ⟨(hF b (List.mem_append_right _ hb)).1, by have := hltF b hb; omega⟩
        · exact ⟨by have := (hx3 b hb).1; omega, by have := hltX b hb; omega⟩
  · exact (World.grownBy_alloc w _ _).trans h6.1
  · rcases h6.2 a e with h | h
    · exact .inl h
    · exact .inr (by simp at h; omega)
/-- the same, in a region that draws its order -/
theorem step_pushR {ops : Array Oper} {o : Oper} {a : Act} {K : Act → World → Prop} {Q : Exit → Act → World → Prop} {E : Prop} (R : Rep α) (ti : Ti R st) (hgd : Region.wanted o (yielded ops a.tmps) = true) (s x : Operand)
    (ho : o.op = .call { callee := .builtin .append, args := #[s, x], argTypes := #[st, st] }) {cs : List Value} {z : α} {mid : Nat}
    (hs : a.eval s = .slice A n c) (h : Owns R w lo mid A n c zs) (hx : a.eval x = .slice (some ⟨w.heap.size, 0, none⟩) 1 1) (hz : OwnI R w mid hi cs z) (hb : n + 1 ≤ 68719476736) (hlo : lo ≤ mid) (hw : lo ≤ w.heap.size)
    (hK : ∀ A' c' w', Owns R w' lo w'.heap.size A' (n + 1) c' (zs ++ [z]) → Gr A w A' w' → K (a.put o.dst (.slice A' (n + 1) c')) w') :
    if Region.wanted o (yielded ops a.tmps) = true then Oper.wp Try.prog o a (w.alloc (.cells cs.toArray R.ty)) K Q else E := by
  obtain ⟨F, ⟨raw, Fe, h1, rfl, h3, h4⟩, hnd, hF⟩ := h.has
  obtain ⟨Fx, hx1, hx2, hx3⟩ := hz
  have hcl := R.len (R.ord hx1)
  have hr : RowR R (w.alloc (.cells cs.toArray R.ty)) A n c raw := ⟨by rw [h4.len, h1], h4.clen, h3.alloc _⟩
  refine step_appR ti hgd s x ho hs hr hx (src_new w hcl (R.one (R.ord hx1)) R.ty) hb fun A' c' w' h5 h6 => hK A' c' w' ?_ ⟨?_, fun a e => ?_⟩
  · have hkept : ∀ i, i < w.heap.size → i ∉ blk A → w'.heap[i]? = w.heap[i]? := fun i hi hn => by
      rw [Gr.kept h6 (by simp; omega) fun a e hne => hn (by subst e; simp [blk, hne])]
      exact Below.heap_alloc w _ i hi
    have hne : ∀ i, i ∈ Fe → i ∉ blk A := fun i hi hA => by
      have := (List.nodup_append.1 hnd).2.2 i hA i hi
      exact this rfl
    have hnx : ∀ i, i ∈ Fx → i ∉ blk A := fun i hi hA => by
      have h7 := (hF i (List.mem_append_left _ hA)).2
      have h8 := (hx3 i hi).1
      omega
    have e1 : Els R w' Fe raw zs := h4.keep fun i hi hw => hkept i hw (hne i hi)
    have e2 : Els R w' (Fx ++ []) [cs] [z] := .cons (R.okeep hx1 fun i hi hw => hkept i hw (hnx i hi)) .nil
    rw [List.append_nil] at e2
    have hsz : (w.alloc (.cells cs.toArray R.ty)).heap.size ≤ w'.heap.size := h6.1.size
    have hsz' : w.heap.size + 1 ≤ w'.heap.size := by simpa using hsz
    have hblk : ∀ b, b ∈ blk A' → b ∈ blk A ∨ w.heap.size < b := fun b hb => by
      rcases blk_new h6 b hb with h | h
      · exact .inl h
      · exact .inr (by simp at h; omega)
    have hltA : ∀ b, b ∈ blk A' → b < w'.heap.size := fun b hb => by
      cases A' with
      | none => cases hb
      | some a =>
        have e : b = a.block := by simpa [blk] using hb
        subst e
        exact (h5.row.lt a.block (by simp [Value.ownBlock])).2
    have hltF : ∀ i, i ∈ Fe → i < w.heap.size := h4.olt
    have hltX : ∀ i, i ∈ Fx → i < w.heap.size := R.olt hx1
    refine ⟨blk A' ++ (Fe ++ Fx), ⟨raw ++ [cs], Fe ++ Fx, by simp [h1], rfl, h5.row, e1.append e2⟩, ?_, fun b hb => ?_⟩
    · have n1 := List.nodup_append.1 hnd
      refine List.nodup_append.2 ⟨?_, List.nodup_append.2 ⟨n1.2.1, hx2, fun i hi j hj e => ?_⟩, fun i hi j hj e => ?_⟩
      · cases A' <;> simp [blk]
      · subst e
        have h7 := (hF i (List.mem_append_right _ hi)).2
        have h8 := (hx3 i hj).1
        omega
      · subst e
        rcases hblk i hi with h | h
        · rcases List.mem_append.1 hj with hj | hj
          · exact hne i hj h
          · exact hnx i hj h
        · rcases List.mem_append.1 hj with hj | hj
          · have := hltF i hj
            omega
          · have := hltX i hj
            omega
    · rcases List.mem_append.1 hb with hb | hb
      · refine ⟨?_, hltA b hb⟩
        rcases hblk b hb with h | h
        · exact (hF b (List.mem_append_left _ h)).1
        · omega
      · rcases List.mem_append.1 hb with hb | hb
        · exact ⟨(hF b (List.mem_append_right _ hb)).1, by have := hltF b hb; omega⟩
        · exact ⟨by have := (hx3 b hb).1; omega, by have := hltX b hb; omega⟩
  · exact (World.grownBy_alloc w _ _).trans h6.1
  · rcases h6.2 a e with h | h
    · exact .inl h
    · exact .inr (by simp at h; omega)
end
end Go.Proofs.Ytcpfdhammhcoaaa.RepA
