/- Chapter 6: a set of keys read into an array with a count; how many of its keys are held. -/
import Derived.Test.YthhibhnclbnhlaaC06A
namespace Go.Proofs.Ythhibhnclbnhlaa.C06B
open Go.RowKit Mem MemS Rep R06 M03 M06 C01 C03S C03D C03H C06S C06A
set_option linter.unusedVariables false
set_option maxRecDepth 100000
theorem slice_arr (b n : Nat) (hn : n ≤ 4) (w : World) : (Instr.sliceAt 75 (.pointer (some ⟨b, 0, none⟩)) none (some (.int .i64 (n : Int))) none).run Try.prog w = .ok (.slice (some ⟨b, 0, none⟩) n 4) w := by
  have hal : Try.prog.arrayLen 75 = 4 := by kernel_rfl
  have hal' : ((Try.prog.arrayLen 75 : Nat) : Int) = 4 := by rw [hal]; rfl
  have hel : Try.prog.elem 75 = 3 := by kernel_rfl
  have hu : Try.prog.underlying 75 = some (.array (Try.prog.arrayLen 75) (Try.prog.elem 75)) := by rw [hal, hel]; kernel_rfl
  rw [run_sliceAt_array_h w 75 ⟨b, 0, none⟩ hu .i64 (n : Int) (by omega) (by rw [hal']; omega), hel]
  simp [go_sem, slicedAt, Addr.add]
set_option maxHeartbeats 1000000 in
theorem countIn_any (l : List Int) (n : Nat) (A2 : Option Addr) (m c2 : Nat) (held : List Int) (w : World) (hl : l.length = n) (hn : n ≤ 4) (hi : ∀ z ∈ l, In .i64 z) (h2 : Rd .i64 w w.heap.size A2 m held) (hm : m ≤ 1099511627776) :
    Calls Try.prog 56 #[.agg (arr5 l n).toArray, .slice A2 m c2] w fun e w' => e = .returned (.int .i64 (cntK held l)) ∧ Below w.heap.size w w' := by
  have HB := Lib.hid ((Below.refl w.heap.size w).alloc (Nat.le_refl _) (.cells (arr5 l n).toArray 77))
  have H2 := Lib.hid (h2.below HB.out (Nat.le_refl _))
  have hx := Box.new w (arr5 l n).toArray 77
  have HR := Lib.hid (rd_arr hl hn hx hi)
  have HL := Lib.hid hl
  clear h2 hi hl hx
  have hsl := slice_arr w.heap.size n hn
  unfold arr5
  unfold arr5 at HB HR H2
  go_enter Try.func56, Try.ntmps56
  go_wp2
  clear hsl
  go_loop [5, 13] (fun v i => ∃ j : Nat, j ≤ n ∧ i = .int .i64 j ∧ v = .int .i64 (cntK held (l.take j) : Int)) (fun _ i => n - (intOf i).toNat)
  case atStart => exact ⟨0, by omega, rfl, rfl⟩
  case round =>
    obtain ⟨j, hj, rfl, rfl⟩ := hrel
    by_cases hjn : j < n
    · obtain ⟨b, off, hA, hlt, hcc⟩ := HR.out.cells (by omega)
      injection hA with hA
      injection hA with e1 e2 _
      subst e1 e2
      have hcj := hcc j hjn
      rw [Nat.zero_add] at hcj
      have hjl : j < l.length := by rw [HL.out]; exact hjn
      have hst := cntK_step (held := held) hjl
      have hle := cntK_le held (l.take j)
      rw [List.length_take] at hle
      rcases hhas : hasK held (l.getD j 0) with _ | _
      · rw [hhas] at hst
        simp only [Bool.false_eq_true, if_false, Nat.add_zero] at hst
        have hK := fun W h => contains_any (w.heap.size) A2 m c2 held (l.getD j 0) W h hm
        rw [hhas] at hK
        have HH := Lib.hid (hK _ H2.out)
        have HS := Lib.hid hst
        generalize l.getD j 0 = x at hcj HH
        clear hcc hhas hK hst hjl
        go_wp2_with fail
        refine HH.out.mono ?_
        rintro e w1 ⟨rfl, rfl⟩
        go_wp2
        go_round
        case rel => exact ⟨j + 1, by omega, by go_num, by rw [HS.out]⟩
        case measure => simp [intOf]; omega
      · rw [hhas] at hst
        simp only [if_true] at hst
        have hK := fun W h => contains_any (w.heap.size) A2 m c2 held (l.getD j 0) W h hm
        rw [hhas] at hK
        have HH := Lib.hid (hK _ H2.out)
        have HS := Lib.hid hst
        generalize l.getD j 0 = x at hcj HH
        have hcn : cntK held (l.take j) ≤ 1099511627776 := by omega
        generalize hq : cntK held (l.take j) = q at hcn HS
        clear hcc hhas hK hst hjl hle hq
        go_wp2_with fail
        refine HH.out.mono ?_
        rintro e w1 ⟨rfl, rfl⟩
        go_wp2
        go_round
        case rel => exact ⟨j + 1, by omega, by go_num, by rw [HS.out]; go_num⟩
        case measure => simp [intOf]; omega
    · obtain rfl : j = n := by omega
      have e1 : l.take j = l := List.take_of_length_le (by rw [HL.out]; omega)
      rw [e1]
      clear e1 hj hjn
      go_wp2
      go_ret
      exact ⟨rfl, HB.out⟩
end Go.Proofs.Ythhibhnclbnhlaa.C06B
