/- Package box: Grow, Of. -/
import Derived.Test.YtgimkcbegalepaaRows
import Derived.Test.YtgimkcbegalepaaBe
import Derived.Test.YtgimkcbegalepaaBd
namespace Go.Proofs.Ytgimkcbegalepaa
open Go.RowKit Fl

set_option maxRecDepth 100000 in
set_option maxHeartbeats 1000000 in
theorem grow_any (a0 a1 a2 a3 a4 a5 p0 p1 p2 : Nat) (w : World) : Ret Try.prog 13 #[.agg #[.float .f64 a0, .float .f64 a1, .float .f64 a2, .float .f64 a3, .float .f64 a4, .float .f64 a5], .agg #[.float .f64 p0, .float .f64 p1, .float .f64 p2]] w (fun v => v = .agg #[.float .f64 (lowF a0 p0), .float .f64 (lowF a1 p1), .float .f64 (lowF a2 p2), .float .f64 (highF a3 p0), .float .f64 (highF a4 p1), .float .f64 (highF a5 p2)]) := by
  unfold Ret
  go_enter Try.func13, Try.ntmps13
  go_wp2_with fail
  refine Calls.mono (join_any _ _ _ _ _ _ _ _ _ _ _ _ _) ?_
  rintro e w' ⟨v, rfl, rfl, hw'⟩
  have HW : Hid _ := hw'
  obtain ⟨hc, hf⟩ := Lp.bcell hw'
  clear hw'
  go_wp2_with fail
  refine bodyPost_ret (v := .agg #[.float .f64 (lowF a0 p0), .float .f64 (lowF a1 p1), .float .f64 (lowF a2 p2), .float .f64 (highF a3 p0), .float .f64 (highF a4 p1), .float .f64 (highF a5 p2)]) (by simp [results, go_sem, hc]) rfl ⟨_, rfl, rfl, ?_⟩
  repeat (refine Below.setCell ?_ (by simp <;> omega) _)
  exact Cl.out3 HW.out

set_option maxRecDepth 100000 in
set_option maxHeartbeats 1000000 in
theorem of_any (t0 t1 t2 t3 t4 t5 t6 t7 t8 : Nat) (w : World) : Ret Try.prog 14 #[.agg #[.float .f64 t0, .float .f64 t1, .float .f64 t2, .float .f64 t3, .float .f64 t4, .float .f64 t5, .float .f64 t6, .float .f64 t7, .float .f64 t8]] w (fun v => v = .agg #[.float .f64 (lowF (lowF (lowF pinf t0) t3) t6), .float .f64 (lowF (lowF (lowF pinf t1) t4) t7), .float .f64 (lowF (lowF (lowF pinf t2) t5) t8), .float .f64 (highF (highF (highF ninf t0) t3) t6), .float .f64 (highF (highF (highF ninf t1) t4) t7), .float .f64 (highF (highF (highF ninf t2) t5) t8)]) := by
  unfold Ret
  go_enter Try.func14, Try.ntmps14
  go_wp2_with fail
  apply Lp.wp_region_loose _ _ 10 (by kernel_rfl) (by kernel_rfl) (by kernel_rfl) (Below.refl _ _)
  apply Lp.facts
  · intro w1 hw
    exact And.intro (Lp.c3 hw (w.heap.size) 0 1 2 (by go_simp; exact rfl) (by go_simp; exact rfl) (by go_simp; exact rfl) (by go_simp; done)) (And.intro (Lp.c3 hw (w.heap.size) 3 4 5 (by go_simp; exact rfl) (by go_simp; exact rfl) (by go_simp; exact rfl) (by go_simp; done)) ((Lp.c3 hw (w.heap.size) 6 7 8 (by go_simp; exact rfl) (by go_simp; exact rfl) (by go_simp; exact rfl) (by go_simp; done))))
  intro HF
  apply Lp.any rfl
  · intro w hw
    go_simp
    exact Lp.ret (empty_any _)
  intro K hK
  rintro v rfl
  go_simp
  refine hK.out _ ?_
  clear hK K
  iterate 2 (
    apply Lp.one ?_ rfl
    · intro w hw
      obtain ⟨⟨c0, c1, c2⟩, ⟨⟨c3, c4, c5⟩, ⟨c6, c7, c8⟩⟩⟩ := HF.out _ hw
      go_simp
      exact rfl
    intro K hK
    go_simp
    refine hK.out _ ?_
    clear hK K)
  apply Lp.any rfl
  · intro w hw
    go_simp
    exact Lp.ret (grow_any _ _ _ _ _ _ _ _ _ _)
  intro K hK
  rintro v rfl
  go_simp
  refine hK.out _ ?_
  clear hK K
  iterate 2 (
    apply Lp.one ?_ rfl
    · intro w hw
      obtain ⟨⟨c0, c1, c2⟩, ⟨⟨c3, c4, c5⟩, ⟨c6, c7, c8⟩⟩⟩ := HF.out _ hw
      go_simp
      exact rfl
    intro K hK
    go_simp
    refine hK.out _ ?_
    clear hK K)
  apply Lp.any rfl
  · intro w hw
    go_simp
    exact Lp.ret (grow_any _ _ _ _ _ _ _ _ _ _)
  intro K hK
  rintro v rfl
  go_simp
  refine hK.out _ ?_
  clear hK K
  iterate 2 (
    apply Lp.one ?_ rfl
    · intro w hw
      obtain ⟨⟨c0, c1, c2⟩, ⟨⟨c3, c4, c5⟩, ⟨c6, c7, c8⟩⟩⟩ := HF.out _ hw
      go_simp
      exact rfl
    intro K hK
    go_simp
    refine hK.out _ ?_
    clear hK K)
  apply Lp.any rfl
  · intro w hw
    go_simp
    exact Lp.ret (grow_any _ _ _ _ _ _ _ _ _ _)
  intro K hK
  rintro v rfl
  go_simp
  refine hK.out _ ?_
  clear hK K
  rotate_left
  exact []
  intro w' hw'
  have HW : Hid _ := hw'
  obtain ⟨hc, hf⟩ := Lp.bcell hw'
  clear hw'
  go_wp2_with fail
  refine bodyPost_ret (v := .agg #[.float .f64 (lowF (lowF (lowF pinf t0) t3) t6), .float .f64 (lowF (lowF (lowF pinf t1) t4) t7), .float .f64 (lowF (lowF (lowF pinf t2) t5) t8), .float .f64 (highF (highF (highF ninf t0) t3) t6), .float .f64 (highF (highF (highF ninf t1) t4) t7), .float .f64 (highF (highF (highF ninf t2) t5) t8)]) (by simp [results, go_sem, hc]) rfl ⟨_, rfl, rfl, ?_⟩
  repeat (refine Below.setCell ?_ (by simp <;> omega) _)
  exact Cl.out2 HW.out

end Go.Proofs.Ytgimkcbegalepaa
