/- The walk of the law RgbReckons. -/
import Derived.Test.YtldblpgopgggdaaRows
import Derived.Test.YtldblpgopgggdaaRf
import Derived.Test.YtldblpgopgggdaaRc
namespace Go.Proofs.Ytldblpgopgggdaa
open Go.RowKit Fl

set_option maxRecDepth 100000 in
set_option maxHeartbeats 1000000 in
theorem reckons_walk (ax ay az bx bY bz k : Nat) (w : World) : Ret Try.prog 3 #[.agg #[.float .f64 ax, .float .f64 ay, .float .f64 az], .agg #[.float .f64 bx, .float .f64 bY, .float .f64 bz], .float .f64 k] w (fun v => v = .bool true) := by
  unfold Ret
  go_enter Try.func3, Try.ntmps3
  go_wp2_with fail
  refine Lp.settle (fun w' => Lp.Bk w' (w.heap.size) #[.float .f64 ax, .float .f64 ay, .float .f64 az] 24 ∧ Lp.Bk w' (w.heap.size + 1) #[.float .f64 bx, .float .f64 bY, .float .f64 bz] 24 ∧ Cl w w') ⟨((Lp.Bk.al _ _ _).alo _), (Lp.Bk.al1 _ _ _ _), ((Below.refl _ _).alloc (by simp <;> omega) _).alloc (by simp <;> omega) _⟩ ?_
  rintro v1 ⟨BA, BB, HB⟩
  have kA := BA.cell
  have kB := BB.cell
  apply Lp.wp_region_loose _ _ 38 (by kernel_rfl) (by kernel_rfl) (by kernel_rfl) (Below.refl _ _)
  apply Lp.facts
  · intro w1 hw
    exact And.intro (BA.cl hw).cell ((BB.cl hw).cell)
  intro HF
  apply Lp.any rfl
  · intro w hw
    go_simp
    exact Lp.ret (awake5 _)
  intro K hK
  rintro v rfl
  go_simp
  refine hK.out _ ?_
  clear hK K
  iterate 3 (
    apply Lp.one ?_ rfl
    · intro w hw
      obtain ⟨k0, k1⟩ := HF.out _ hw
      go_simp
      exact rfl
    intro K hK
    go_simp
    refine hK.out _ ?_
    clear hK K)
  apply Lp.any rfl
  · intro w hw
    go_simp
    exact Lp.ret (rgb_add _ _ _ _ _ _ _)
  intro K hK
  rintro v ⟨x0, x1, x2, rfl, hx0, hx1, hx2⟩
  go_simp
  refine hK.out _ ?_
  clear hK K
  iterate 2 (
    apply Lp.one ?_ rfl
    · intro w hw
      obtain ⟨k0, k1⟩ := HF.out _ hw
      go_simp
      exact rfl
    intro K hK
    go_simp
    refine hK.out _ ?_
    clear hK K)
  apply Lp.any rfl
  · intro w hw
    go_simp
    exact Lp.ret (r5add _ _ _ _ _ _ _)
  intro K hK
  rintro v ⟨y0, y1, y2, rfl, hy0, hy1, hy2⟩
  go_simp
  refine hK.out _ ?_
  clear hK K
  apply Lp.any rfl
  · intro w hw
    go_simp
    exact Lp.ret (is5_true (hx0.sm.trans hy0.sm.symm) (hx1.sm.trans hy1.sm.symm) (hx2.sm.trans hy2.sm.symm) _)
  intro K hK
  rintro v rfl
  go_simp
  refine hK.out _ ?_
  clear hK K
  iterate 4 (
    apply Lp.one ?_ rfl
    · intro w hw
      obtain ⟨k0, k1⟩ := HF.out _ hw
      go_simp
      exact rfl
    intro K hK
    go_simp
    refine hK.out _ ?_
    clear hK K)
  apply Lp.any rfl
  · intro w hw
    go_simp
    exact Lp.ret (rgb_mul _ _ _ _ _ _ _)
  intro K hK
  rintro v ⟨p0, p1, p2, rfl, hp0, hp1, hp2⟩
  go_simp
  refine hK.out _ ?_
  clear hK K
  iterate 2 (
    apply Lp.one ?_ rfl
    · intro w hw
      obtain ⟨k0, k1⟩ := HF.out _ hw
      go_simp
      exact rfl
    intro K hK
    go_simp
    refine hK.out _ ?_
    clear hK K)
  apply Lp.any rfl
  · intro w hw
    go_simp
    exact Lp.ret (r5mul _ _ _ _ _ _ _)
  intro K hK
  rintro v ⟨q0, q1, q2, rfl, hq0, hq1, hq2⟩
  go_simp
  refine hK.out _ ?_
  clear hK K
  apply Lp.any rfl
  · intro w hw
    go_simp
    exact Lp.ret (is5_true (hp0.sm.trans hq0.sm.symm) (hp1.sm.trans hq1.sm.symm) (hp2.sm.trans hq2.sm.symm) _)
  intro K hK
  rintro v rfl
  go_simp
  refine hK.out _ ?_
  clear hK K
  iterate 4 (
    apply Lp.one ?_ rfl
    · intro w hw
      obtain ⟨k0, k1⟩ := HF.out _ hw
      go_simp
      exact rfl
    intro K hK
    go_simp
    refine hK.out _ ?_
    clear hK K)
  apply Lp.any rfl
  · intro w hw
    go_simp
    exact Lp.ret (rgb_scale _ _ _ _ _)
  intro K hK
  rintro v ⟨s0, s1, s2, rfl, hs0, hs1, hs2⟩
  go_simp
  refine hK.out _ ?_
  clear hK K
  iterate 2 (
    apply Lp.one ?_ rfl
    · intro w hw
      obtain ⟨k0, k1⟩ := HF.out _ hw
      go_simp
      exact rfl
    intro K hK
    go_simp
    refine hK.out _ ?_
    clear hK K)
  apply Lp.any rfl
  · intro w hw
    go_simp
    exact Lp.ret (r5scale _ _ _ _ _)
  intro K hK
  rintro v ⟨t0, t1, t2, rfl, ht0, ht1, ht2⟩
  go_simp
  refine hK.out _ ?_
  clear hK K
  apply Lp.any rfl
  · intro w hw
    go_simp
    exact Lp.ret (is5_true (hs0.sm.trans ht0.sm.symm) (hs1.sm.trans ht1.sm.symm) (hs2.sm.trans ht2.sm.symm) _)
  intro K hK
  rintro v rfl
  go_simp
  refine hK.out _ ?_
  clear hK K
  iterate 3 (
    apply Lp.one ?_ rfl
    · intro w hw
      obtain ⟨k0, k1⟩ := HF.out _ hw
      go_simp
      exact rfl
    intro K hK
    go_simp
    refine hK.out _ ?_
    clear hK K)
  apply Lp.any rfl
  · intro w hw
    go_simp
    exact Lp.ret (rgb_gray _ _)
  intro K hK
  rintro v rfl
  go_simp
  refine hK.out _ ?_
  clear hK K
  iterate 4 (
    apply Lp.one ?_ rfl
    · intro w hw
      obtain ⟨k0, k1⟩ := HF.out _ hw
      go_simp
      exact rfl
    intro K hK
    go_simp
    refine hK.out _ ?_
    clear hK K)
  apply Lp.any rfl
  · intro w hw
    go_simp
    exact Lp.ret (is5_true (Sm.refl _) (Sm.refl _) (Sm.refl _) _)
  intro K hK
  rintro v rfl
  go_simp
  refine hK.out _ ?_
  clear hK K
  iterate 2 (
    apply Lp.one ?_ rfl
    · intro w hw
      obtain ⟨k0, k1⟩ := HF.out _ hw
      go_simp
      exact rfl
    intro K hK
    go_simp
    refine hK.out _ ?_
    clear hK K)
  rotate_left
  exact []
  intro v2 hm
  clear kA kB
  replace BA := BA.keep hm
  replace BB := BB.keep hm
  replace HB := HB.call hm
  clear hm
  have kA := BA.cell
  have kB := BB.cell
  go_wp2_with fail
  go_ret
  exact ⟨_, rfl, rfl, HB⟩

end Go.Proofs.Ytldblpgopgggdaa
