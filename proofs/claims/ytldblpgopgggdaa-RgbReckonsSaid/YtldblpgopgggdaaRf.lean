/- Package rgb: what must come at any rate. -/
import Derived.Test.YtldblpgopgggdaaRows
import Derived.Test.YtldblpgopgggdaaRb
import Derived.Test.YtldblpgopgggdaaRe
namespace Go.Proofs.Ytldblpgopgggdaa
open Go.RowKit Fl

@[go_sem] theorem fldc_2 (x y z : Nat) (w : World) : (Instr.field 24 (.agg #[.float .f64 x, .float .f64 y, .float .f64 z]) 2).run Try.prog w = .ok (.float .f64 z) w := by kernel_rfl

theorem eqv_just {r z c : Nat} (h : Eqv r z) (e : z = c) (hn : isN c = false) : r = c := by
  subst e
  exact (h.sm.symm.eq hn).symm
theorem aw_most : mostF 4607182418800017408 4611686018427387904 4613937818241073152 = 4613937818241073152 := by decide +kernel
theorem aw_good : gdB 4607182418800017408 4611686018427387904 4613937818241073152 = true := by decide +kernel
theorem aw_black : blB 4607182418800017408 4611686018427387904 4613937818241073152 = false := by decide +kernel
theorem aw_wei : weiF 4607182418800017408 4611686018427387904 4613937818241073152 = 32 := by decide +kernel
theorem eq_two : (FloatKind.f64.format.order 4611686018427387904 4611686018427387904 == some .eq) = true := by decide +kernel
theorem eq_three : (FloatKind.f64.format.order 4613937818241073152 4613937818241073152 == some .eq) = true := by decide +kernel
theorem eq_six : (FloatKind.f64.format.order 4618441417868443648 4618441417868443648 == some .eq) = true := by decide +kernel
theorem mean_aw (w : World) : Ret Try.prog 18 #[.agg #[.float .f64 4607182418800017408, .float .f64 4611686018427387904, .float .f64 4613937818241073152]] w (fun v => v = .float .f64 4611686018427387904) :=
  (rgb_mean _ _ _ w).mono fun v ⟨r, e, h⟩ => by rw [e, eqv_just h (c := 4611686018427387904) (by decide +kernel) (by decide +kernel)]

theorem wei_aw (w : World) : Ret Try.prog 23 #[.agg #[.float .f64 4607182418800017408, .float .f64 4611686018427387904, .float .f64 4613937818241073152]] w (fun v => v = .int .i64 32) :=
  (rgb_weight _ _ _ w).mono fun v e => by rw [e, aw_wei]

theorem most_aw (w : World) : Ret Try.prog 16 #[.agg #[.float .f64 4607182418800017408, .float .f64 4611686018427387904, .float .f64 4613937818241073152]] w (fun v => v = .float .f64 4613937818241073152) :=
  (rgb_most _ _ _ w).mono fun v e => by rw [e, aw_most]

theorem good_aw (w : World) : Ret Try.prog 20 #[.agg #[.float .f64 4607182418800017408, .float .f64 4611686018427387904, .float .f64 4613937818241073152]] w (fun v => v = .bool true) :=
  (rgb_good _ _ _ w).mono fun v e => by rw [e, aw_good]

theorem black_aw (w : World) : Ret Try.prog 22 #[.agg #[.float .f64 4607182418800017408, .float .f64 4611686018427387904, .float .f64 4613937818241073152]] w (fun v => v = .bool false) :=
  (rgb_black _ _ _ w).mono fun v e => by rw [e, aw_black]

theorem mul_aw (w : World) : Ret Try.prog 10 #[.agg #[.float .f64 4607182418800017408, .float .f64 4611686018427387904, .float .f64 4613937818241073152], .agg #[.float .f64 4611686018427387904, .float .f64 4611686018427387904, .float .f64 4611686018427387904]] w (fun v => v = .agg #[.float .f64 4611686018427387904, .float .f64 4616189618054758400, .float .f64 4618441417868443648]) :=
  (rgb_mul _ _ _ _ _ _ w).mono fun v ⟨r, s, t, e, h0, h1, h2⟩ => by
    rw [e, eqv_just h0 (c := 4611686018427387904) (by decide +kernel) (by decide +kernel), eqv_just h1 (c := 4616189618054758400) (by decide +kernel) (by decide +kernel), eqv_just h2 (c := 4618441417868443648) (by decide +kernel) (by decide +kernel)]

set_option maxRecDepth 100000 in
set_option maxHeartbeats 1000000 in
theorem awake5  (w : World) : Ret Try.prog 6 #[] w (fun v => v = .bool true) := by
  unfold Ret
  have q2 := eq_two
  have q3 := eq_three
  have q6 := eq_six
  go_enter Try.func6, Try.ntmps6
  go_wp2_with fail
  refine Lp.settle (fun w' => Lp.Bk w' (w.heap.size) #[.float .f64 4607182418800017408, .float .f64 4611686018427387904, .float .f64 4613937818241073152] 24 ∧ Cl w w') ⟨(Lp.Bk.al _ _ _), (Below.refl _ _).alloc (by simp <;> omega) _⟩ ?_
  rintro v1 ⟨BA, HB⟩
  have kA := BA.cell
  apply Lp.wp_region_loose _ _ 30 (by kernel_rfl) (by kernel_rfl) (by kernel_rfl) (Below.refl _ _)
  apply Lp.facts
  · intro w1 hw
    exact (BA.cl hw).cell
  intro HF
  iterate 1 (
    apply Lp.one ?_ rfl
    · intro w hw
      have k0 := HF.out _ hw
      go_simp
      exact rfl
    intro K hK
    go_simp
    refine hK.out _ ?_
    clear hK K)
  apply Lp.any rfl
  · intro w hw
    go_simp
    exact Lp.ret (mean_aw _)
  intro K hK
  rintro v rfl
  go_simp
  refine hK.out _ ?_
  clear hK K
  iterate 3 (
    apply Lp.one ?_ rfl
    · intro w hw
      have k0 := HF.out _ hw
      go_simp
      exact rfl
    intro K hK
    go_simp
    refine hK.out _ ?_
    clear hK K)
  apply Lp.any rfl
  · intro w hw
    go_simp
    exact Lp.ret (wei_aw _)
  intro K hK
  rintro v rfl
  go_simp
  refine hK.out _ ?_
  clear hK K
  iterate 4 (
    apply Lp.one ?_ rfl
    · intro w hw
      have k0 := HF.out _ hw
      go_simp
      exact rfl
    intro K hK
    go_simp
    refine hK.out _ ?_
    clear hK K)
  apply Lp.any rfl
  · intro w hw
    go_simp
    exact Lp.ret (most_aw _)
  intro K hK
  rintro v rfl
  go_simp
  refine hK.out _ ?_
  clear hK K
  iterate 4 (
    apply Lp.one ?_ rfl
    · intro w hw
      have k0 := HF.out _ hw
      go_simp
      exact rfl
    intro K hK
    go_simp
    refine hK.out _ ?_
    clear hK K)
  apply Lp.any rfl
  · intro w hw
    go_simp
    exact Lp.ret (good_aw _)
  intro K hK
  rintro v rfl
  go_simp
  refine hK.out _ ?_
  clear hK K
  iterate 3 (
    apply Lp.one ?_ rfl
    · intro w hw
      have k0 := HF.out _ hw
      go_simp
      exact rfl
    intro K hK
    go_simp
    refine hK.out _ ?_
    clear hK K)
  apply Lp.any rfl
  · intro w hw
    go_simp
    exact Lp.ret (black_aw _)
  intro K hK
  rintro v rfl
  go_simp
  refine hK.out _ ?_
  clear hK K
  iterate 4 (
    apply Lp.one ?_ rfl
    · intro w hw
      have k0 := HF.out _ hw
      go_simp
      exact rfl
    intro K hK
    go_simp
    refine hK.out _ ?_
    clear hK K)
  apply Lp.any rfl
  · intro w hw
    go_simp
    exact Lp.ret (rgb_gray _ _)
  intro K hK
  rintro v rfl
  go_simp
  refine hK.out _ ?_
  clear hK K
  apply Lp.any rfl
  · intro w hw
    go_simp
    exact Lp.ret (mul_aw _)
  intro K hK
  rintro v rfl
  go_simp
  refine hK.out _ ?_
  clear hK K
  iterate 4 (
    apply Lp.one ?_ rfl
    · intro w hw
      have k0 := HF.out _ hw
      go_simp
      exact rfl
    intro K hK
    go_simp
    refine hK.out _ ?_
    clear hK K)
  rotate_left
  exact []
  intro v2 hm
  clear kA
  replace BA := BA.keep hm
  replace HB := HB.call hm
  clear hm
  have kA := BA.cell
  go_wp2_with fail
  go_ret
  exact ⟨_, rfl, rfl, HB⟩

end Go.Proofs.Ytldblpgopgggdaa
