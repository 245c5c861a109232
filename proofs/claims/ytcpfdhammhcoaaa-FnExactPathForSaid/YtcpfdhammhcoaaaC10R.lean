/- Chapter 10: levels of nodes in memory: the row of their addresses, and what a round of levelAbove does to it. -/
import Derived.Test.YtcpfdhammhcoaaaC10J
import Derived.Test.YtcpfdhammhcoaaaRR
namespace Go.Proofs.Ytcpfdhammhcoaaa.C10R
open Go.RowKit Mem MemS M10 M10T C01 Rep RepA RW C10T C10V C10J
set_option linter.unusedVariables false
set_option maxRecDepth 100000
/-- addresses of nodes -/
def RP : Rep Nat := leaf PT (fun b => .pointer (some ⟨b, 0, none⟩)) (fun _ => True)
theorem RP_n : RP.n = 1 := rfl
theorem RP_ty : RP.ty = PT := rfl
theorem und_SPT : Try.prog.underlying SPT = some (.slice PT) := by kernel_rfl
theorem info_PT : (Try.prog.info? PT).map (fun i => (i.zero, i.size, i.bytes)) = some (some (.pointer none), 1, 8) := by kernel_rfl
theorem tiP : Ti RP SPT := by
  obtain ⟨i, h1, h2, h3, h4⟩ := info_parts info_PT
  exact ⟨und_SPT, by decide, i, _, h1, h2, rfl, h3, by omega⟩
def raws (bs : List Nat) : List (List Value) := bs.map fun b => [.pointer (some ⟨b, 0, none⟩)]
theorem raws_flat : ∀ bs : List Nat, (raws bs).flatten = bs.map fun b => Value.pointer (some ⟨b, 0, none⟩)
  | [] => rfl
  | b :: bs => by
    have := raws_flat bs
    simp only [raws, List.map_cons, List.flatten_cons] at this ⊢
    rw [this]
    rfl
theorem raws_snoc (bs : List Nat) (b : Nat) : raws (bs ++ [b]) = raws bs ++ [[.pointer (some ⟨b, 0, none⟩)]] := by simp [raws]
theorem raws_len (bs : List Nat) : (raws bs).length = bs.length := by simp [raws]
/-- a row of the call's own: these addresses -/
def Row (w : World) (A : Option Addr) (n c : Nat) (bs : List Nat) : Prop := RowR RP w A n c (raws bs)
section
variable {w w' X Y W W1 W2 : World} {A A' : Option Addr} {n c c' N B g s k : Nat} {bs : List Nat} {Ts Us : List T}
theorem Row.len (h : Row w A n c bs) : bs.length = n := by rw [← RowR.len h, raws_len]
theorem Row.blk (h : Row w A n c bs) {a : Addr} (hA : A = some a) : a = ⟨a.block, 0, none⟩ ∧ ∃ cur, w.heap[a.block]? = some (.cells cur PT (0, 0)) := by
  subst hA
  rcases h.row.2 with ⟨h1, _⟩ | ⟨g, cap, cur, h1, _, h3, _⟩
  · cases h1
  · injection h1 with e1
    injection e1 with e1
    subst e1
    exact ⟨rfl, cur, h3⟩
theorem Row.get (h : Row w A n c bs) (hn : 0 < n) : ∃ g, A = some ⟨g, 0, none⟩ ∧ n ≤ c ∧ (∃ cur, w.heap[g]? = some (.cells cur PT (0, 0))) ∧ ∀ j b, bs[j]? = some b → w.cell? ⟨g, j, none⟩ = some (.pointer (some ⟨b, 0, none⟩)) := by
  rcases h.row.2 with ⟨h1, h2⟩ | ⟨g, cap, cur, h1, _, h3, h4, _⟩
  · omega
  · injection h1 with e1 e2 e3
    subst e1 e3
    refine ⟨g, rfl, h4, ⟨cur, h3⟩, fun j b hb => ?_⟩
    have := h.row.cells (g := g) rfl j (.pointer (some ⟨b, 0, none⟩)) (by rw [raws_flat, List.getElem?_map, hb]; rfl)
    rw [add_none, Nat.zero_add] at this
    exact this
theorem Row.keep (h : Row w A n c bs) (hk : ∀ a cur, A = some a → w.heap[a.block]? = some (.cells cur PT (0, 0)) → w'.heap[a.block]? = some (.cells cur PT (0, 0))) : Row w' A n c bs := by
  refine ⟨h.1, h.2, h.row.1, ?_⟩
  rcases h.row.2 with h1 | ⟨g, cap, cur, h1, h2, h3, h4⟩
  · exact .inl h1
  · injection h1 with e1 e2 e3
    subst e1 e3
    exact .inr ⟨g, c, cur, rfl, h2, hk ⟨g, 0, none⟩ cur rfl h3, h4⟩
/-- blocks of cells are kept, and all that lay below N -/
structure Tame (N : Nat) (X Y : World) : Prop where
  os : Y.os = X.os
  tape : Y.tape = X.tape
  output : Y.output = X.output
  size : X.heap.size ≤ Y.heap.size
  cells : ∀ (k : Nat) (cs : Array Value) (t : TypeId), X.heap[k]? = some (Obj.cells cs t (0, 0)) → Y.heap[k]? = some (Obj.cells cs t (0, 0))
  old : ∀ k, k < N → Y.heap[k]? = X.heap[k]?
theorem Tame.grown {row : Option Nat} (hg : X.grownBy Y row) (hr : ∀ r, row = some r → N ≤ r ∧ ∃ o : Obj, X.heap[r]? = some o ∧ o.isCells = false) (hN : N ≤ X.heap.size) : Tame N X Y :=
  ⟨hg.os, hg.tape, hg.output, hg.size, fun k cs t h => (hg.block k (Array.getElem?_eq_some_iff.1 h).1 fun e => by
    obtain ⟨_, o, h1, h2⟩ := hr k e.symm
    rw [h] at h1
    cases h1
    cases h2).trans h, fun k hk => hg.block k (by omega) fun e => by have := (hr k e.symm).1; omega⟩
/-- all blocks are kept but those that S names -/
structure Mv (S : Nat → Prop) (w w' : World) : Prop where
  os : w'.os = w.os
  tape : w'.tape = w.tape
  output : w'.output = w.output
  size : w.heap.size ≤ w'.heap.size
  block : ∀ k, k < w.heap.size → ¬ S k → w'.heap[k]? = w.heap[k]?
theorem Mv.below {S : Nat → Prop} (h : Mv S w w') (hS : ∀ k, S k → N ≤ k) (hN : N ≤ w.heap.size) : Below N w w' := ⟨h.os, h.tape, h.output, h.size, fun k hk => h.block k (by omega) fun hs => by have := hS k hs; omega⟩
theorem Mv.of_below {S : Nat → Prop} (h : Below w.heap.size w w') : Mv S w w' := ⟨h.os, h.tape, h.output, h.size, fun k hk _ => h.block k hk⟩
/-- what has come to be when these pieces are through: in any order all is whole, in their own order the level above stands -/
structure St (w : World) (Ts : List T) (s B : Nat) (pre : List Nat) (W : World) (A : Option Addr) (c : Nat) (bs : List Nat) : Prop where
  len : bs.length = pre.length
  box : Boxed W B SPT (.slice A bs.length c)
  row : Row W A bs.length c bs
  fresh : ∀ a, A = some a → w.heap.size ≤ a.block
  src : ∀ b, b ∈ bs → b ∈ heads Ts ∨ w.heap.size ≤ b
  mv : Mv (· ∈ heads Ts) w W
  nodes : ∀ b, b ∈ heads Ts → ∃ x l r a, Nd W b x l r a
  ch1 : ∃ cs, W.heap[s]? = some (.cells cs SPT (0, 0))
  ch2 : ∃ cs, W.heap[s + 1]? = some (.cells cs 3 (0, 0))
  good : pre = List.range pre.length → ∃ Us, bs = heads Us ∧ Up (Ts.take (2 * pre.length)) Us ∧ Lvl W (Us ++ Ts.drop (2 * pre.length))
theorem St.tame {pre : List Nat} (h : St w Ts s B pre X A c bs) (t : Tame w.heap.size X Y) : St w Ts s B pre Y A c bs :=
  ⟨h.len, t.cells _ _ _ h.box, h.row.keep fun a cur _ e => t.cells _ _ _ e, h.fresh, h.src,
   ⟨t.os.trans h.mv.os, t.tape.trans h.mv.tape, t.output.trans h.mv.output, Nat.le_trans h.mv.size t.size, fun k hk hs => (t.old k hk).trans (h.mv.block k hk hs)⟩,
   fun b hb => (h.nodes b hb).imp fun x h => h.imp fun l h => h.imp fun r h => h.imp fun a h => t.cells _ _ _ h,
   h.ch1.imp fun cs h => t.cells _ _ _ h, h.ch2.imp fun cs h => t.cells _ _ _ h,
   fun e => (h.good e).imp fun Us h => ⟨h.1, h.2.1, h.2.2.keep fun b cs _ e => t.cells _ _ _ e⟩⟩
theorem St.drew {pre : List Nat} (h : St w Ts s B pre X A c bs) : St w Ts s B pre X.drew A c bs := h.tame ⟨rfl, rfl, rfl, Nat.le_refl _, fun _ _ _ h => h, fun _ _ => rfl⟩
theorem head_nd {Ts : List T} (h : Lvl w Ts) {b : Nat} (hb : b ∈ heads Ts) : ∃ cs, w.heap[b]? = some (.cells cs NT (0, 0)) := by
  obtain ⟨t, ht, rfl⟩ := List.mem_map.1 hb
  obtain ⟨⟨x, l, r, hn⟩, _⟩ := (h.is t ht).root
  exact ⟨_, hn⟩
theorem nt_ne {cs cs' : Array Value} {t : TypeId} {b : Nat} (h : w.heap[b]? = some (.cells cs NT (0, 0))) (h' : w.heap[b]? = some (.cells cs' t (0, 0))) : t = NT := by
  rw [h] at h'
  injection h' with h'
  injection h' with _ h'
  exact h'.symm
theorem drew_heap (W : World) : W.drew.heap = W.heap := rfl
theorem drop_two {Ts : List T} {i : Nat} (h : i + 1 < Ts.length) : ∃ l m, Ts[i]? = some l ∧ Ts[i + 1]? = some m ∧ Ts.drop i = l :: m :: Ts.drop (i + 2) ∧ Ts.take (i + 2) = Ts.take i ++ [l, m] := by
  refine ⟨Ts[i], Ts[i + 1], List.getElem?_eq_getElem _, List.getElem?_eq_getElem _, ?_, ?_⟩
  · rw [List.drop_eq_getElem_cons (show i < Ts.length by omega), List.drop_eq_getElem_cons h]
  · rw [show i + 2 = (i + 1) + 1 by omega, List.take_succ_eq_append_getElem h, List.take_succ_eq_append_getElem (show i < Ts.length by omega)]
    simp only [List.append_assoc, List.cons_append, List.nil_append]
theorem drop_one {Ts : List T} {i : Nat} (h : i + 1 = Ts.length) : ∃ l, Ts[i]? = some l ∧ Ts.drop i = [l] ∧ Ts.drop (i + 2) = [] ∧ Ts.take (i + 2) = Ts.take i ++ [l] := by
  refine ⟨Ts[i], List.getElem?_eq_getElem _, ?_, List.drop_eq_nil_of_le (by omega), ?_⟩
  · rw [List.drop_eq_getElem_cons (show i < Ts.length by omega), List.drop_eq_nil_of_le (by omega)]
  · rw [List.take_of_length_le (by omega)]
    conv => lhs; rw [← List.take_of_length_le (show Ts.length ≤ i + 1 by omega), List.take_succ_eq_append_getElem (show i < Ts.length by omega)]
/-- an append of one address onto the row, its store into the box: what is kept -/
theorem pushed (hb : Boxed W1 B SPT (.slice A n c)) (hr : Row W1 A n c bs) {b : Nat} (h2 : RowR RP W2 A' (n + 1) c' (raws bs ++ [[.pointer (some ⟨b, 0, none⟩)]])) (hg : Gr A (W1.alloc (.cells #[.pointer (some ⟨b, 0, none⟩)] PT)) A' W2) :
    Boxed W2 B SPT (.slice A n c) ∧ Boxed (W2.setCell ⟨B, 0, none⟩ (.slice A' (n + 1) c')) B SPT (.slice A' (n + 1) c') ∧ Row (W2.setCell ⟨B, 0, none⟩ (.slice A' (n + 1) c')) A' (n + 1) c' (bs ++ [b]) ∧
    (∀ a, A' = some a → A = some a ∨ W1.heap.size ≤ a.block) ∧
    Mv (fun k => k = B ∨ ∃ a, A = some a ∧ a.block = k) W1 (W2.setCell ⟨B, 0, none⟩ (.slice A' (n + 1) c')) ∧
    (∀ (k : Nat) (o : Obj), W1.heap[k]? = some o → (∀ cs t, o = Obj.cells cs t (0, 0) → t ≠ SPT ∧ t ≠ PT) → (W2.setCell ⟨B, 0, none⟩ (.slice A' (n + 1) c')).heap[k]? = some o) := by
  have hA : ∀ a, A = some a → ∃ cur, W1.heap[a.block]? = some (.cells cur PT (0, 0)) := fun a e => (hr.blk e).2
  have hBA : ∀ a, A = some a → a.block ≠ B := fun a e hne => by
    obtain ⟨cur, h⟩ := hA a e
    rw [hne] at h
    have h' : W1.heap[B]? = _ := hb
    rw [h] at h'
    injection h' with h'
    injection h' with _ h'
    exact absurd h' (by decide)
  have keep : ∀ k, k < W1.heap.size → (∀ a, A = some a → a.block ≠ k) → W2.heap[k]? = W1.heap[k]? := fun k hk hn => by
    rw [Gr.kept hg (by simp; omega) hn]
    exact Below.heap_alloc _ _ _ hk
  have b2 : Boxed W2 B SPT (.slice A n c) := (keep B hb.lt hBA).trans hb
  have hA' : ∀ a, A' = some a → ∃ cur, W2.heap[a.block]? = some (.cells cur PT (0, 0)) := fun a e => by
    have h2' : Row W2 A' (n + 1) c' (bs ++ [b]) := by unfold Row; rw [raws_snoc]; exact h2
    exact (h2'.blk e).2
  have hBA' : ∀ a, A' = some a → B ≠ a.block := fun a e hne => by
    obtain ⟨cur, h⟩ := hA' a e
    rw [← hne] at h
    have h' : W2.heap[B]? = _ := b2
    rw [h] at h'
    injection h' with h'
    injection h' with _ h'
    exact absurd h' (by decide)
  have hsz : W1.heap.size ≤ W2.heap.size := Nat.le_trans (by simp) hg.1.size
  refine ⟨b2, b2.set _, ?_, fun a e => ?_, ⟨?_, ?_, ?_, ?_, fun k hk hn => ?_⟩, fun k o ho ht => ?_⟩
  · have h2' : Row W2 A' (n + 1) c' (bs ++ [b]) := by unfold Row; rw [raws_snoc]; exact h2
    exact h2'.keep fun a cur e h => (Below.heap_setCell _ _ _ _ (fun hne => hBA' a e hne.symm)).trans h
  · rcases hg.2 a e with h | h
    · left
      cases A with
      | none => cases h
      | some a0 =>
        have e1 := (hr.blk rfl).1
        have h2' : Row W2 A' (n + 1) c' (bs ++ [b]) := by unfold Row; rw [raws_snoc]; exact h2
        have e2 := (h2'.blk e).1
        injection h with h
        have h : a0.block = a.block := h
        rw [e1, e2, h]
    · right
      simp at h
      omega
  · exact hg.1.os
  · exact hg.1.tape
  · exact hg.1.output
  · simpa [World.setCell] using hsz
  · rw [Below.heap_setCell _ _ _ _ (fun e => hn (.inl e)), keep k hk fun a e hne => hn (.inr ⟨a, e, hne⟩)]
  · have hk : k < W1.heap.size := (Array.getElem?_eq_some_iff.1 ho).1
    rw [Below.heap_setCell _ _ _ _ fun e => ?_, keep k hk fun a e hne => ?_]
    · exact ho
    · obtain ⟨cur, h⟩ := hA a e
      rw [hne, ho] at h
      injection h with h
      exact (ht _ _ h).2 rfl
    · have h' : W1.heap[B]? = _ := hb
      rw [show k = B from e, h'] at ho
      injection ho with ho
      exact (ht _ _ ho.symm).1 rfl
theorem range_snoc {pre : List Nat} {x : Nat} (h : pre ++ [x] = List.range (pre ++ [x]).length) : pre = List.range pre.length ∧ x = pre.length := by
  rw [List.length_append, List.length_singleton, List.range_succ] at h
  have := List.append_inj' h rfl
  exact ⟨this.1, by simpa using this.2⟩
theorem in_heads {t : T} {i : Nat} (h : Ts[i]? = some t) : t.b ∈ heads Ts := List.mem_map.2 ⟨t, List.mem_of_getElem? h, rfl⟩
/-- a round over a piece of two -/
theorem round_two {pre : List Nat} {x : Nat} {l m : T} (h : St w Ts s B pre W A c bs) (hw : ∀ b, b ∈ heads Ts → b < w.heap.size) (hB : w.heap.size ≤ B) (hBs : B < s) (hl : Ts[2 * x]? = some l) (hm : Ts[2 * x + 1]? = some m)
    (hJ : Joined W W1 l.b m.b) (h2 : RowR RP W2 A' (bs.length + 1) c' (raws bs ++ [[.pointer (some ⟨W.heap.size, 0, none⟩)]])) (hg : Gr A (W1.alloc (.cells #[.pointer (some ⟨W.heap.size, 0, none⟩)] PT)) A' W2) :
    Boxed W2 B SPT (.slice A bs.length c) ∧ St w Ts s B (pre ++ [x]) (W2.setCell ⟨B, 0, none⟩ (.slice A' (bs.length + 1) c')) A' c' (bs ++ [W.heap.size]) ∧
    KeepsFrom N W (W2.setCell ⟨B, 0, none⟩ (.slice A' (bs.length + 1) c')) ∧ K2 s W (W2.setCell ⟨B, 0, none⟩ (.slice A' (bs.length + 1) c')) := by
  have hlh := in_heads hl
  have hmh := in_heads hm
  have hlw := hw _ hlh
  have hmw := hw _ hmh
  have hWs := h.mv.size
  obtain ⟨xl, ll, rl, al, nl⟩ := h.nodes _ hlh
  obtain ⟨xm, lm, rm, am, nm⟩ := h.nodes _ hmh
  have hAW : ∀ a, A = some a → ∃ cur, W.heap[a.block]? = some (.cells cur PT (0, 0)) := fun a e => (h.row.blk e).2
  have ne_nd : ∀ {k : Nat} {cs : Array Value} {t : TypeId} {x' : Int} {l' r' a' : Option Nat} {b : Nat}, W.heap[k]? = some (.cells cs t (0, 0)) → t ≠ NT → Nd W b x' l' r' a' → k ≠ b := fun h1 h2 h3 e => by
    subst e
    exact h2 (nt_ne h3 h1)
  have b1 : Boxed W1 B SPT (.slice A bs.length c) := (hJ.block B h.box.lt (ne_nd h.box (by decide) nl) (ne_nd h.box (by decide) nm)).trans h.box
  have r1 : Row W1 A bs.length c bs := h.row.keep fun a cur e h1 => (hJ.block _ (Array.getElem?_eq_some_iff.1 h1).1 (ne_nd h1 (by decide) nl) (ne_nd h1 (by decide) nm)).trans h1
  obtain ⟨p1, p2, p3, p4, p5, p6⟩ := pushed b1 r1 h2 hg
  have old1 : ∀ (k : Nat) (o : Obj), W.heap[k]? = some o → k ≠ l.b → k ≠ m.b → W1.heap[k]? = some o := fun k o ho h1 h2 => (hJ.block k (Array.getElem?_eq_some_iff.1 ho).1 h1 h2).trans ho
  have nt3 : ∀ (k : Nat) (cs : Array Value), W1.heap[k]? = some (.cells cs NT (0, 0)) → (W2.setCell ⟨B, 0, none⟩ (.slice A' (bs.length + 1) c')).heap[k]? = some (.cells cs NT (0, 0)) := fun k cs hk => p6 k _ hk fun cs' t e => by
    injection e with _ e
    subst e
    exact ⟨by decide, by decide⟩
  have keep3 : ∀ (k : Nat) (o : Obj), W.heap[k]? = some o → k ≠ l.b → k ≠ m.b → k ≠ B → (∀ a, A = some a → a.block ≠ k) → (W2.setCell ⟨B, 0, none⟩ (.slice A' (bs.length + 1) c')).heap[k]? = some o := fun k o ho h1 h2 h3 h4 => by
    have ho1 := old1 k o ho h1 h2
    exact (p5.block k (Array.getElem?_eq_some_iff.1 ho1).1 fun e => by
      rcases e with e | ⟨a, e, e'⟩
      · exact h3 e
      · exact h4 a e e').trans ho1
  have hk2 : K2 s W (W2.setCell ⟨B, 0, none⟩ (.slice A' (bs.length + 1) c')) := fun k o hk ho => by
    have hb : ∃ cs t, W.heap[k]? = some (.cells cs t (0, 0)) ∧ t ≠ NT ∧ t ≠ PT := by
      rcases hk with rfl | rfl
      · obtain ⟨cs, h1⟩ := h.ch1
        exact ⟨cs, _, h1, by decide, by decide⟩
      · obtain ⟨cs, h1⟩ := h.ch2
        exact ⟨cs, _, h1, by decide, by decide⟩
    obtain ⟨cs, t, h1, h2, h3⟩ := hb
    refine keep3 k o ho (ne_nd h1 h2 nl) (ne_nd h1 h2 nm) (by omega) fun a e e' => ?_
    obtain ⟨cur, h4⟩ := hAW a e
    rw [e', h1] at h4
    injection h4 with h4
    injection h4 with _ h4
    exact h3 h4
  refine ⟨p1, ⟨by simp [h.len], ?_, ?_, fun a e => ?_, fun b hb => ?_, ⟨?_, ?_, ?_, ?_, fun k hk hn => ?_⟩, fun b hb => ?_, ?_, ?_, fun e => ?_⟩, ⟨?_, fun k o hk ho hc => ?_⟩, hk2⟩
  · rw [List.length_append, List.length_singleton]
    exact p2
  · rw [List.length_append, List.length_singleton]
    exact p3
  · rcases p4 a e with h1 | h1
    · exact h.fresh a h1
    · have := hJ.size
      omega
  · rcases List.mem_append.1 hb with hb | hb
    · exact h.src b hb
    · right
      rw [List.mem_singleton.1 hb]
      exact hWs
  · exact p5.os.trans (hJ.os.trans h.mv.os)
  · exact p5.tape.trans (hJ.tape.trans h.mv.tape)
  · exact p5.output.trans (hJ.output.trans h.mv.output)
  · have := p5.size
    have := hJ.size
    omega
  · rw [p5.block k (by have := hJ.size; omega) fun e => ?_, hJ.block k (by omega) (fun e => hn (e ▸ hlh)) (fun e => hn (e ▸ hmh)), h.mv.block k hk hn]
    rcases e with e | ⟨a, e, e'⟩
    · omega
    · have := h.fresh a e
      omega
  · obtain ⟨x', l', r', a', hn⟩ := h.nodes b hb
    by_cases e1 : b = l.b
    · subst e1
      exact ⟨_, _, _, _, nt3 _ _ (hJ.fst _ _ _ _ hn)⟩
    · by_cases e2 : b = m.b
      · subst e2
        exact ⟨_, _, _, _, nt3 _ _ (hJ.snd _ _ _ _ hn)⟩
      · exact ⟨_, _, _, _, nt3 _ _ (old1 _ _ hn e1 e2)⟩
  · obtain ⟨cs, h1⟩ := h.ch1
    exact ⟨cs, hk2 _ _ (.inl rfl) h1⟩
  · obtain ⟨cs, h1⟩ := h.ch2
    exact ⟨cs, hk2 _ _ (.inr rfl) h1⟩
  · obtain ⟨e1, e2⟩ := range_snoc e
    obtain ⟨Us, g1, g2, g3⟩ := h.good e1
    subst e2
    rw [List.length_append, List.length_singleton, show 2 * (pre.length + 1) = 2 * pre.length + 2 by omega]
    have hlt := (List.getElem?_eq_some_iff.1 hm).1
    obtain ⟨l', m', q1, q2, q3, q4⟩ := drop_two hlt
    rw [hl] at q1
    rw [hm] at q2
    cases q1
    cases q2
    rw [q3] at g3
    rw [q4]
    refine ⟨Us ++ [.node W.heap.size l m], by simp [heads, g1, T.b], g2.snoc2 (by rw [List.length_take]; omega) _ _ _, ?_⟩
    rw [List.append_assoc]
    refine g3.join (Nat.le_refl _) (fun b cs hb hc => nt3 _ _ (old1 _ _ hc hb.1 hb.2)) (nt3 _ _ hJ.node) (fun x i j hn => nt3 _ _ (hJ.fst _ _ _ _ hn)) (fun x i j hn => nt3 _ _ (hJ.snd _ _ _ _ hn))
  · have := p5.size
    have := hJ.size
    omega
  · have ne_cells : ∀ {j : Nat} {cs : Array Value} {t : TypeId}, W.heap[j]? = some (.cells cs t (0, 0)) → k ≠ j := fun h1 e => by
      subst e
      rw [h1] at ho
      cases ho
      cases hc
    refine keep3 k o ho (ne_cells nl) (ne_cells nm) (ne_cells h.box) fun a e e' => ?_
    obtain ⟨cur, h4⟩ := hAW a e
    exact ne_cells h4 e'.symm
/-- a round over a piece of one -/
theorem round_one {pre : List Nat} {x : Nat} {l : T} (h : St w Ts s B pre W A c bs) (hw : ∀ b, b ∈ heads Ts → b < w.heap.size) (hB : w.heap.size ≤ B) (hBs : B < s) (hl : Ts[2 * x]? = some l) (hx : 2 * x + 1 = Ts.length)
    (h2 : RowR RP W2 A' (bs.length + 1) c' (raws bs ++ [[.pointer (some ⟨l.b, 0, none⟩)]])) (hg : Gr A (W.alloc (.cells #[.pointer (some ⟨l.b, 0, none⟩)] PT)) A' W2) :
    Boxed W2 B SPT (.slice A bs.length c) ∧ St w Ts s B (pre ++ [x]) (W2.setCell ⟨B, 0, none⟩ (.slice A' (bs.length + 1) c')) A' c' (bs ++ [l.b]) ∧
    KeepsFrom N W (W2.setCell ⟨B, 0, none⟩ (.slice A' (bs.length + 1) c')) ∧ K2 s W (W2.setCell ⟨B, 0, none⟩ (.slice A' (bs.length + 1) c')) := by
  have hWs := h.mv.size
  have hAW : ∀ a, A = some a → ∃ cur, W.heap[a.block]? = some (.cells cur PT (0, 0)) := fun a e => (h.row.blk e).2
  obtain ⟨p1, p2, p3, p4, p5, p6⟩ := pushed h.box h.row h2 hg
  have nt3 : ∀ (k : Nat) (cs : Array Value), W.heap[k]? = some (.cells cs NT (0, 0)) → (W2.setCell ⟨B, 0, none⟩ (.slice A' (bs.length + 1) c')).heap[k]? = some (.cells cs NT (0, 0)) := fun k cs hk => p6 k _ hk fun cs' t e => by
    injection e with _ e
    subst e
    exact ⟨by decide, by decide⟩
  have keep3 : ∀ (k : Nat) (o : Obj), W.heap[k]? = some o → k ≠ B → (∀ a, A = some a → a.block ≠ k) → (W2.setCell ⟨B, 0, none⟩ (.slice A' (bs.length + 1) c')).heap[k]? = some o := fun k o ho h3 h4 =>
    (p5.block k (Array.getElem?_eq_some_iff.1 ho).1 fun e => by
      rcases e with e | ⟨a, e, e'⟩
      · exact h3 e
      · exact h4 a e e').trans ho
  have hk2 : K2 s W (W2.setCell ⟨B, 0, none⟩ (.slice A' (bs.length + 1) c')) := fun k o hk ho => by
    have hb : ∃ cs t, W.heap[k]? = some (.cells cs t (0, 0)) ∧ t ≠ NT ∧ t ≠ PT := by
      rcases hk with rfl | rfl
      · obtain ⟨cs, h1⟩ := h.ch1
        exact ⟨cs, _, h1, by decide, by decide⟩
      · obtain ⟨cs, h1⟩ := h.ch2
        exact ⟨cs, _, h1, by decide, by decide⟩
    obtain ⟨cs, t, h1, h2, h3⟩ := hb
    refine keep3 k o ho (by omega) fun a e e' => ?_
    obtain ⟨cur, h4⟩ := hAW a e
    rw [e', h1] at h4
    injection h4 with h4
    injection h4 with _ h4
    exact h3 h4
  refine ⟨p1, ⟨by simp [h.len], ?_, ?_, fun a e => ?_, fun b hb => ?_, ⟨p5.os.trans h.mv.os, p5.tape.trans h.mv.tape, p5.output.trans h.mv.output, Nat.le_trans h.mv.size p5.size, fun k hk hn => ?_⟩, fun b hb => ?_, ?_, ?_, fun e => ?_⟩, ⟨p5.size, fun k o hk ho hc => ?_⟩, hk2⟩
  · rw [List.length_append, List.length_singleton]
    exact p2
  · rw [List.length_append, List.length_singleton]
    exact p3
  · rcases p4 a e with h1 | h1
    · exact h.fresh a h1
    · omega
  · rcases List.mem_append.1 hb with hb | hb
    · exact h.src b hb
    · left
      rw [List.mem_singleton.1 hb]
      exact in_heads hl
  · rw [p5.block k (by omega) fun e => ?_, h.mv.block k hk hn]
    rcases e with e | ⟨a, e, e'⟩
    · omega
    · have := h.fresh a e
      omega
  · obtain ⟨x', l', r', a', hn⟩ := h.nodes b hb
    exact ⟨_, _, _, _, nt3 _ _ hn⟩
  · obtain ⟨cs, h1⟩ := h.ch1
    exact ⟨cs, hk2 _ _ (.inl rfl) h1⟩
  · obtain ⟨cs, h1⟩ := h.ch2
    exact ⟨cs, hk2 _ _ (.inr rfl) h1⟩
  · obtain ⟨e1, e2⟩ := range_snoc e
    obtain ⟨Us, g1, g2, g3⟩ := h.good e1
    subst e2
    rw [List.length_append, List.length_singleton, show 2 * (pre.length + 1) = 2 * pre.length + 2 by omega]
    obtain ⟨l', q1, q3, q5, q4⟩ := drop_one hx
    rw [hl] at q1
    cases q1
    rw [q3] at g3
    rw [q4, q5]
    refine ⟨Us ++ [l], by simp [heads, g1], g2.snoc1 (by rw [List.length_take]; omega) _, ?_⟩
    rw [List.append_nil]
    exact g3.keep fun b cs _ hc => nt3 _ _ hc
  · have ne_cells : ∀ {j : Nat} {cs : Array Value} {t : TypeId}, W.heap[j]? = some (.cells cs t (0, 0)) → k ≠ j := fun h1 e => by
      subst e
      rw [h1] at ho
      cases ho
      cases hc
    refine keep3 k o ho (ne_cells h.box) fun a e e' => ?_
    obtain ⟨cur, h4⟩ := hAW a e
    exact ne_cells h4 e'.symm
end
end Go.Proofs.Ytcpfdhammhcoaaa.C10R
