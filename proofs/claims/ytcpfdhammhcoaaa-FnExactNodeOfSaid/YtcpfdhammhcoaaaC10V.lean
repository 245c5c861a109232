/- Chapter 10: nodes of trees: what the program's functions on one node return. -/
import Derived.Test.YtcpfdhammhcoaaaC10T
import Derived.Test.YtcpfdhammhcoaaaC08I
import Derived.Test.YtcpfdhammhcoaaaQ08
import Derived.Test.YtcpfdhammhcoaaaC03H
import Derived.Deep.RegionLaw
import Derived.Deep.RegionHeld3
import Derived.LaidEql
namespace Go.Proofs.Ytcpfdhammhcoaaa.C10V
open Go.RowKit Mem MemS M02 M03 M05 M08 M10 M10T C01 C02 C03S C03H C08I Rep RepA RW R08 Q08 RKA C10T
set_option linter.unusedVariables false
set_option maxRecDepth 100000
theorem own_lit (k : IntKind) (w : World) {lo b n : Nat} {zs : List Int} {cs : Array Value} {ty : TypeId} (hb : b = w.heap.size) (hc : cs = (zs.map (Value.int k)).toArray) (hty : ty = ety k) (hn : zs.length = n) (hz : ∀ z ∈ zs, In k z) (hl : lo ≤ w.heap.size) (hm : n ≤ maxLen) :
    Own k (w.alloc (.cells cs ty)) lo (b + 1) (some ⟨b, 0, none⟩) n n zs := by
  subst hb hc hty hn
  exact ⟨rfl, hz, by have := World.ownsRow_lit (base := lo) (e := ety k) (size := 1) w (zs.map (Value.int k)).toArray zs.length hl hm (by simp); simpa using this, fun a e => by injection e with e; subst e; simp⟩
def slLen : Value → Nat
  | .slice _ n _ => n
  | _ => 0
theorem iNodeOf_any (a b : Int) (w : World) (ha : In .i64 a) (hb : In .i64 b) : Calls Try.prog 23 #[.int .i64 a, .int .i64 b] w fun e w' => e = .returned (.int .i64 (nodeOf a b)) ∧ Below w.heap.size w w' := by
  have H0 := Lib.hid (own_lit .i64 w (b := w.heap.size) (cs := #[.int .i64 229, .int .i64 a, .int .i64 b]) (ty := 3) (zs := [229, a, b]) (n := 3) (lo := w.heap.size) rfl rfl rfl rfl (by
    intro z hz
    simp only [List.mem_cons, List.not_mem_nil, or_false] at hz
    rcases hz with rfl | rfl | rfl
    · exact inI64 (by omega) (by omega)
    · exact ha
    · exact hb) (Nat.le_refl _) (by simp [maxLen]))
  have HB := Lib.hid ((Below.refl w.heap.size w).alloc (Nat.le_refl _) (.cells #[.int .i64 229, .int .i64 a, .int .i64 b] 3))
  have HR := Lib.hid H0.out.rd
  go_enter Try.func23, Try.ntmps23
  go_wp2_with fail
  refine (iHash_any _ _ _ _ _ (HR.out.more (by simp)) (by omega)).mono ?_
  rintro e w1 ⟨rfl, hbq⟩; have HB := Lib.hid (HB.out.trans (hbq.mono (by simp))); clear hbq
  go_wp2
  go_ret
  exact ⟨rfl, HB.out⟩
theorem node_in (a b : Int) : In .i64 (nodeOf a b) := by have := hsh_range [229, a, b]; unfold nodeOf; exact inI64 (by omega) (by omega)

theorem val_in {w : World} : ∀ {t : T} {a : Option Nat}, IsT w t a → In .i64 t.val
  | .leaf _ _, _, h => h.1
  | .node _ _ _, _, _ => node_in _ _
set_option maxHeartbeats 1000000 in
theorem inumber_any : ∀ (t : T) (a : Option Nat) (w : World), IsT w t a → Calls Try.prog 41 #[.pointer (some ⟨t.b, 0, none⟩)] w fun e w' => e = .returned (.int .i64 t.val) ∧ Below w.heap.size w w' := by
  intro t
  induction t with
  | leaf b x =>
    rintro a w ⟨hi, hn, _⟩
    obtain ⟨c0, c1, c2, c3⟩ := hn.cells
    rw [pv_none] at c1
    show Calls Try.prog 41 #[.pointer (some ⟨b, 0, none⟩)] w fun e w' => e = .returned (.int .i64 x) ∧ Below w.heap.size w w'
    clear hn hi c2 c3
    go_enter Try.func41, Try.ntmps41
    go_wp2
    go_ret
    exact ⟨rfl, Below.refl _ _⟩
  | node b l r ihl ihr =>
    rintro a w ⟨hn, _, _, hl, hr⟩
    obtain ⟨c0, c1, c2, c3⟩ := hn.cells
    have hlt := hn.lt
    rw [pv_some] at c1 c2
    show Calls Try.prog 41 #[.pointer (some ⟨b, 0, none⟩)] w fun e w' => e = .returned (.int .i64 (nodeOf l.val r.val)) ∧ Below w.heap.size w w'
    have HL := Lib.hid (ihl _ w.drew (hl.keep fun _ _ _ h => h))
    have HR := Lib.hid (fun w2 (hb : Below w.drew.heap.size w.drew w2) => ihr _ w2 (hr.keep (Kp.below (w := w.drew) hb _)))
    have HN := Lib.hid (fun w3 => iNodeOf_any l.val r.val w3 (val_in hl) (val_in hr))
    clear hn hl hr ihl ihr c3 c0
    generalize l.val = x at *
    generalize r.val = y at *
    generalize l.b = p at *
    generalize r.b = q at *
    have d1 : w.drew.cell? ⟨b, 1, none⟩ = some (.pointer (some ⟨p, 0, none⟩)) := c1
    have d2 : w.drew.cell? ⟨b, 2, none⟩ = some (.pointer (some ⟨q, 0, none⟩)) := c2
    go_enter Try.func41, Try.ntmps41
    go_wp2_with fail
    go_region_law ((first
      | (go_simp; go_at_call 41; refine HL.out.mono ?_; clear HL; rintro e w2 ⟨rfl, hb2⟩; have k1 := (hb2.cell (p := ⟨b, 1, none⟩) hlt).trans c1; have k2 := (hb2.cell (p := ⟨b, 2, none⟩) hlt).trans c2; have HB2 := Lib.hid hb2; clear hb2)
      | (go_simp; go_at_call 41; refine (HR.out _ HB2.out).mono ?_; clear HR; rintro e w3 ⟨rfl, hb3⟩; have HB3 := Lib.hid (HB2.out.trans (hb3.mono HB2.out.size)); clear hb3)
      | (go_simp; go_at_call 23; refine (HN.out _).mono ?_; clear HN; rintro e w4 ⟨rfl, hb4⟩; have HB4 := Lib.hid (HB3.out.trans (hb4.mono HB3.out.size)); clear hb4)))
    all_goals
      go_wp2
      go_ret
      exact ⟨rfl, (Below.refl w.heap.size w).drew.trans HB4.out⟩
theorem und_PT : Try.prog.underlying PT = some (.pointer NT) := by kernel_rfl
theorem size_NT : (Try.prog.info? NT).map (·.size) = some 4 := by kernel_rfl
theorem run_ptr_eqIn (d : Nat) (w : World) {a b : Nat} {x x' : Int} {l r c l' r' c' : Option Nat} (ha : Nd w a x l r c) (hb : Nd w b x' l' r' c') :
    (Op.equalIn (d + 1) PT (.pointer (some ⟨a, 0, none⟩)) (.pointer (some ⟨b, 0, none⟩))).run Try.prog w = .ok (decide (a = b)) w := by
  obtain ⟨j, hj, hj4⟩ : ∃ j, Try.prog.info? NT = some j ∧ j.size = 4 := by
    have h := size_NT
    cases hi : Try.prog.info? NT with
    | none => rw [hi] at h; cases h
    | some j => rw [hi] at h; exact ⟨j, rfl, by simpa using h⟩
  have hsz : j.size ≠ 0 := by omega
  have hu := run_underlying und_PT w
  by_cases h : a = b
  · subst h
    simp [Op.equalIn, hu, sizeOf, typeInfo, hj, run_sameAddr_same]
  · have hne : (⟨a, 0, none⟩ : Addr) ≠ ⟨b, 0, none⟩ := fun e => h (by injection e)
    have hs := run_sameAddr_other (P := Try.prog) w hne ha hb
    simp [Op.equalIn, hu, sizeOf, typeInfo, hj, hsz, hs, h]
/-- two addresses of nodes compared -/
theorem run_ptr_eq (w : World) {a b : Nat} {x x' : Int} {l r c l' r' c' : Option Nat} (ha : Nd w a x l r c) (hb : Nd w b x' l' r' c') :
    (binOp .eql PT (.pointer (some ⟨a, 0, none⟩)) (.pointer (some ⟨b, 0, none⟩))).run Try.prog w = .ok (.bool (decide (a = b))) w := by
  have h := run_ptr_eqIn 9999 w ha hb
  simp only [binOp]
  simp [Op.equal, Op.maxDepth, h]
theorem iisLeft_any (b u L : Nat) (w : World) {x x' x'' : Int} {l r r' a' l'' r'' a'' : Option Nat} (hb : Nd w b x l r (some u)) (hu : Nd w u x' (some L) r' a') (hL : Nd w L x'' l'' r'' a'') :
    Calls Try.prog 47 #[.pointer (some ⟨b, 0, none⟩)] w fun e w' => e = .returned (.bool (decide (b = L))) ∧ w' = w := by
  obtain ⟨_, _, _, c3⟩ := hb.cells
  obtain ⟨_, d1, _, _⟩ := hu.cells
  have he := run_ptr_eq w hb hL
  rw [pv_some] at c3 d1
  clear hb hu hL
  by_cases h : b = L
  · subst h
    rw [decide_eq_true (rfl : b = b)] at he ⊢
    go_enter Try.func47, Try.ntmps47
    go_wp2
    go_ret
    exact ⟨rfl, rfl⟩
  · have h' : decide (b = L) = false := decide_eq_false h
    rw [h'] at he ⊢
    clear h h'
    go_enter Try.func47, Try.ntmps47
    go_wp2
    go_ret
    exact ⟨rfl, rfl⟩
theorem ineighbour_any (b u L R : Nat) (w : World) {x x' x'' : Int} {l r a' l'' r'' a'' : Option Nat} (hb : Nd w b x l r (some u)) (hu : Nd w u x' (some L) (some R) a') (hL : Nd w L x'' l'' r'' a'') :
    Calls Try.prog 40 #[.pointer (some ⟨b, 0, none⟩)] w fun e w' => e = .returned (.pointer (some ⟨if b = L then R else L, 0, none⟩)) ∧ w' = w := by
  have HI := Lib.hid (iisLeft_any b u L w hb hu hL)
  obtain ⟨_, _, _, c3⟩ := hb.cells
  obtain ⟨_, d1, d2, _⟩ := hu.cells
  rw [pv_some] at c3 d1 d2
  clear hb hu hL
  by_cases h : b = L
  · have h' : decide (b = L) = true := decide_eq_true h
    rw [h'] at HI
    rw [if_pos h]
    clear h h'
    go_enter Try.func40, Try.ntmps40
    go_wp2_with fail
    refine HI.out.mono ?_
    rintro e w2 ⟨rfl, rfl⟩
    go_wp2
    go_ret
    exact ⟨rfl, rfl⟩
  · have h' : decide (b = L) = false := decide_eq_false h
    rw [h'] at HI
    rw [if_neg h]
    clear h h'
    go_enter Try.func40, Try.ntmps40
    go_wp2_with fail
    refine HI.out.mono ?_
    rintro e w2 ⟨rfl, rfl⟩
    go_wp2
    go_ret
    exact ⟨rfl, rfl⟩
def blkOf : Value → Nat
  | .pointer (some a) => a.block
  | _ => 0
set_option maxHeartbeats 1000000 in
/-- from an element of a level to the top -/
theorem itop_any (Ts : List T) (k : Nat) (t : T) (w : World) (h : Lv w Ts) (hk : Ts[k]? = some t) :
    Calls Try.prog 45 #[.pointer (some ⟨t.b, 0, none⟩)] w fun e w' => ∃ u, e = .returned (.pointer (some ⟨u.b, 0, none⟩)) ∧ IsT w u none ∧ u.val = topW (vals Ts) ∧ w' = w := by
  have HH := Lib.hid h
  have HK := Lib.hid hk
  clear h hk
  go_enter Try.func45, Try.ntmps45
  go_wp2
  go_loopw [0] (fun v wr => ∃ (Us : List T) (k : Nat) (u : T), Lv w Us ∧ Us[k]? = some u ∧ v = .pointer (some ⟨T.b u, 0, none⟩) ∧ topW (vals Us) = topW (vals Ts) ∧ wr = w) (fun v _ => w.heap.size - blkOf v)
  case atStart => exact ⟨Ts, k, t, HH.out, HK.out, rfl, rfl, rfl⟩
  case round =>
    obtain ⟨Us, k, u, hl, hk, rfl, ht, rfl⟩ := hrel
    rcases hl.step k u hk with ⟨i1, i2, i3, i4⟩ | ⟨b, L, R, a, Vs, k', i1, i2, i3, i4, i5, i6⟩
    · obtain ⟨⟨x, l, r, hn⟩, _⟩ := i1.root
      obtain ⟨_, _, _, c3⟩ := hn.cells
      rw [pv_none] at c3
      have HT := Lib.hid (i3.symm.trans ht)
      have HI := Lib.hid i1
      clear hn i1 i2 i3 i4 ht hk hl
      go_wp2
      go_ret
      exact ⟨u, rfl, HI.out, HT.out, by trivial⟩
    · have hu : IsT wr u (some b) := by
        rcases i6 with ⟨rfl, _⟩ | ⟨rfl, _⟩
        · exact i1.2.2.2.1
        · exact i1.2.2.2.2
      obtain ⟨⟨x, l, r, hn⟩, hlt⟩ := hu.root
      have hlt := hlt b rfl
      obtain ⟨_, _, _, c3⟩ := hn.cells
      rw [pv_some] at c3
      have hsz := i1.1.lt
      have H2 := Lib.hid i2
      have H3 := Lib.hid i3
      have HT := Lib.hid (i4.symm.trans ht)
      clear hn i1 i2 i3 i4 i5 i6 ht hk hl hu
      generalize T.b u = ub at *
      go_wp2
      go_roundw
      case rel => exact ⟨Vs, k', .node b L R, H2.out, H3.out, rfl, HT.out, by trivial⟩
      case measure => simp [blkOf]; omega
end Go.Proofs.Ytcpfdhammhcoaaa.C10V
