/- The walk of the law BoxGrows. -/
import Derived.Deep.LoopGhost
import Derived.Test.YtgimkcbegalepaaRows
import Derived.Test.YtgimkcbegalepaaBp
import Derived.Test.YtgimkcbegalepaaBg
import Derived.Test.YtgimkcbegalepaaBh
namespace Go.Proofs.Ytgimkcbegalepaa
open Go.RowKit Fl

set_option maxRecDepth 100000 in
set_option maxHeartbeats 1000000 in
theorem grows_walk (a0 a1 a2 a3 a4 a5 b0 b1 b2 b3 b4 b5 t0 t1 t2 t3 t4 t5 t6 t7 t8 : Nat) (w : World) : Ret Try.prog 3 #[.agg #[.float .f64 a0, .float .f64 a1, .float .f64 a2, .float .f64 a3, .float .f64 a4, .float .f64 a5], .agg #[.float .f64 b0, .float .f64 b1, .float .f64 b2, .float .f64 b3, .float .f64 b4, .float .f64 b5], .agg #[.float .f64 t0, .float .f64 t1, .float .f64 t2, .float .f64 t3, .float .f64 t4, .float .f64 t5, .float .f64 t6, .float .f64 t7, .float .f64 t8]] w (fun v => v = .bool true) := by
  unfold Ret
  go_enter Try.func3, Try.ntmps3
  go_wp2_with fail
  refine Lp.settle (fun w' => Lp.Bk w' (w.heap.size) #[.float .f64 a0, .float .f64 a1, .float .f64 a2, .float .f64 a3, .float .f64 a4, .float .f64 a5] 26 ∧ Lp.Bk w' (w.heap.size + 1) #[.float .f64 b0, .float .f64 b1, .float .f64 b2, .float .f64 b3, .float .f64 b4, .float .f64 b5] 26 ∧ Lp.Bk w' (w.heap.size + 1 + 1) #[.float .f64 t0, .float .f64 t1, .float .f64 t2, .float .f64 t3, .float .f64 t4, .float .f64 t5, .float .f64 t6, .float .f64 t7, .float .f64 t8] 28 ∧ Lp.Bk w' (w.heap.size + 1 + 1 + 1) #[.float .f64 t0, .float .f64 t1, .float .f64 t2] 24 ∧ Cl w w') ⟨((((Lp.Bk.al _ _ _).alo _).alo _).alo _), (((Lp.Bk.al1 _ _ _ _).alo _).alo _), ((Lp.Bk.al2 _ _ _ _ _).alo _), (Lp.Bk.al3 _ _ _ _ _ _), ((((Below.refl _ _).alloc (by simp <;> omega) _).alloc (by simp <;> omega) _).alloc (by simp <;> omega) _).alloc (by simp <;> omega) _⟩ ?_
  rintro v1 ⟨BA, BB, BT, BP, HB⟩
  have kA := BA.cell
  have kB := BB.cell
  have kT := BT.cell
  have kP := BP.cell
  apply Lp.wp_region_loose _ _ 34 (by kernel_rfl) (by kernel_rfl) (by kernel_rfl) (Below.refl _ _)
  apply Lp.facts
  · intro w1 hw
    exact And.intro (BA.cl hw).cell (And.intro (BB.cl hw).cell (And.intro (BT.cl hw).cell ((BP.cl hw).cell)))
  intro HF
  apply Lp.any rfl
  · intro w hw
    go_simp
    exact Lp.ret (awake_any _)
  intro K hK
  rintro v rfl
  go_simp
  refine hK.out _ ?_
  clear hK K
  iterate 1 (
    apply Lp.one ?_ rfl
    · intro w hw
      obtain ⟨k0, k1, k2, k3⟩ := HF.out _ hw
      go_simp
      exact rfl
    intro K hK
    go_simp
    refine hK.out _ ?_
    clear hK K)
  apply Lp.any rfl
  · intro w hw
    go_simp
    exact Lp.ret (empty_any _)
  intro K hK
  rintro v rfl
  go_simp
  refine hK.out _ ?_
  clear hK K
  apply Lp.any rfl
  · intro w hw
    go_simp
    exact Lp.ret (rempty_any _)
  intro K hK
  rintro v rfl
  go_simp
  refine hK.out _ ?_
  clear hK K
  apply Lp.any rfl
  · intro w hw
    go_simp
    exact Lp.ret (is4_true (Sm.refl _) (Sm.refl _) (Sm.refl _) (Sm.refl _) (Sm.refl _) (Sm.refl _) _)
  intro K hK
  rintro v rfl
  go_simp
  refine hK.out _ ?_
  clear hK K
  iterate 4 (
    apply Lp.one ?_ rfl
    · intro w hw
      obtain ⟨k0, k1, k2, k3⟩ := HF.out _ hw
      go_simp
      exact rfl
    intro K hK
    go_simp
    refine hK.out _ ?_
    clear hK K)
  apply Lp.any rfl
  · intro w hw
    go_simp
    exact Lp.ret (join_any _ _ _ _ _ _ _ _ _ _ _ _ _)
  intro K hK
  rintro v rfl
  go_simp
  refine hK.out _ ?_
  clear hK K
  iterate 2 (
    apply Lp.one ?_ rfl
    · intro w hw
      obtain ⟨k0, k1, k2, k3⟩ := HF.out _ hw
      go_simp
      exact rfl
    intro K hK
    go_simp
    refine hK.out _ ?_
    clear hK K)
  apply Lp.any rfl
  · intro w hw
    go_simp
    exact Lp.ret (rjoin_any _ _ _ _ _ _ _ _ _ _ _ _ _)
  intro K hK
  rintro v rfl
  go_simp
  refine hK.out _ ?_
  clear hK K
  apply Lp.any rfl
  · intro w hw
    go_simp
    exact Lp.ret (is4_true (Sm.refl _) (Sm.refl _) (Sm.refl _) (Sm.refl _) (Sm.refl _) (Sm.refl _) _)
  intro K hK
  rintro v rfl
  go_simp
  refine hK.out _ ?_
  clear hK K
  iterate 4 (
    apply Lp.one ?_ rfl
    · intro w hw
      obtain ⟨k0, k1, k2, k3⟩ := HF.out _ hw
      go_simp
      exact rfl
    intro K hK
    go_simp
    refine hK.out _ ?_
    clear hK K)
  apply Lp.any rfl
  · intro w hw
    go_simp
    exact Lp.ret (grow_any _ _ _ _ _ _ _ _ _ _)
  intro K hK
  rintro v rfl
  go_simp
  refine hK.out _ ?_
  clear hK K
  iterate 4 (
    apply Lp.one ?_ rfl
    · intro w hw
      obtain ⟨k0, k1, k2, k3⟩ := HF.out _ hw
      go_simp
      exact rfl
    intro K hK
    go_simp
    refine hK.out _ ?_
    clear hK K)
  apply Lp.any rfl
  · intro w hw
    go_simp
    exact Lp.ret (rjoin_any _ _ _ _ _ _ _ _ _ _ _ _ _)
  intro K hK
  rintro v rfl
  go_simp
  refine hK.out _ ?_
  clear hK K
  apply Lp.any rfl
  · intro w hw
    go_simp
    exact Lp.ret (is4_true (Sm.refl _) (Sm.refl _) (Sm.refl _) (Sm.refl _) (Sm.refl _) (Sm.refl _) _)
  intro K hK
  rintro v rfl
  go_simp
  refine hK.out _ ?_
  clear hK K
  iterate 3 (
    apply Lp.one ?_ rfl
    · intro w hw
      obtain ⟨k0, k1, k2, k3⟩ := HF.out _ hw
      go_simp
      exact rfl
    intro K hK
    go_simp
    refine hK.out _ ?_
    clear hK K)
  apply Lp.any rfl
  · intro w hw
    go_simp
    exact Lp.ret (of_any _ _ _ _ _ _ _ _ _ _)
  intro K hK
  rintro v rfl
  go_simp
  refine hK.out _ ?_
  clear hK K
  iterate 1 (
    apply Lp.one ?_ rfl
    · intro w hw
      obtain ⟨k0, k1, k2, k3⟩ := HF.out _ hw
      go_simp
      exact rfl
    intro K hK
    go_simp
    refine hK.out _ ?_
    clear hK K)
  apply Lp.any rfl
  · intro w hw
    go_simp
    exact Lp.ret (rof_any _ _ _ _ _ _ _ _ _ _)
  intro K hK
  rintro v rfl
  go_simp
  refine hK.out _ ?_
  clear hK K
  apply Lp.any rfl
  · intro w hw
    go_simp
    exact Lp.ret (is4_true (Sm.refl _) (Sm.refl _) (Sm.refl _) (Sm.refl _) (Sm.refl _) (Sm.refl _) _)
  intro K hK
  rintro v rfl
  go_simp
  refine hK.out _ ?_
  clear hK K
  iterate 2 (
    apply Lp.one ?_ rfl
    · intro w hw
      obtain ⟨k0, k1, k2, k3⟩ := HF.out _ hw
      go_simp
      exact rfl
    intro K hK
    go_simp
    refine hK.out _ ?_
    clear hK K)
  rotate_left
  exact []
  intro v2 hm
  clear kA kB kT kP
  replace BA := BA.keep hm
  replace BB := BB.keep hm
  replace BT := BT.keep hm
  replace BP := BP.keep hm
  replace HB := HB.call hm
  clear hm
  have kA := BA.cell
  have kB := BB.cell
  have kT := BT.cell
  have kP := BP.cell
  go_wp2_with fail
  go_ret
  exact ⟨_, rfl, rfl, HB⟩

end Go.Proofs.Ytgimkcbegalepaa
