/- The walk of the law RgbLooks. -/
import Derived.Test.YtldblpgopgggdaaRows
import Derived.Test.YtldblpgopgggdaaRf
import Derived.Test.YtldblpgopgggdaaRc
namespace Go.Proofs.Ytldblpgopgggdaa
open Go.RowKit Fl

set_option maxRecDepth 100000 in
set_option maxHeartbeats 1000000 in
theorem looks5_walk (ax ay az : Nat) (w : World) : Ret Try.prog 4 #[.agg #[.float .f64 ax, .float .f64 ay, .float .f64 az]] w (fun v => v = .bool true) := by
  unfold Ret
  cases hb : blB ax ay az
  · rcases bl_ways hb with e1 | ⟨e1, e2⟩ | ⟨e1, e2, e3⟩
    · have HK : Hid (∀ w, Ret Try.prog 22 #[.agg #[.float .f64 ax, .float .f64 ay, .float .f64 az]] w (fun v => v = .bool false)) := fun w => by have h := rgb_black ax ay az w; rw [hb] at h; exact h
      clear hb
      replace e1 : (FloatKind.f64.format.order ax 0 == some .eq) = false := e1
      go_enter Try.func4, Try.ntmps4
      go_wp2_with fail
      refine Lp.settle (fun w' => Lp.Bk w' (w.heap.size) #[.float .f64 ax, .float .f64 ay, .float .f64 az] 24 ∧ Cl w w') ⟨(Lp.Bk.al _ _ _), (Below.refl _ _).alloc (by simp <;> omega) _⟩ ?_
      rintro v1 ⟨BA, HB⟩
      have kA := BA.cell
      apply Lp.wp_region_loose _ _ 48 (by kernel_rfl) (by kernel_rfl) (by kernel_rfl) (Below.refl _ _)
      apply Lp.facts
      · intro w1 hw
        exact (BA.cl hw).cell
      intro HF
      apply Lp.any rfl
      · intro w hw
        go_simp
        exact Lp.ret (awake5 _)
      intro K hK
      rintro v rfl
      go_simp
      refine hK.out _ ?_
      clear hK K
      iterate 2 (
        apply Lp.one ?_ rfl
        · intro w hw
          have k0 := HF.out _ hw
          go_simp
          exact rfl
        intro K hK
        go_simp
        refine hK.out _ ?_
        clear hK K)
      apply Lp.any rfl
      · intro w hw
        go_simp
        exact Lp.ret (rgb_most _ _ _ _)
      intro K hK
      rintro v rfl
      go_simp
      refine hK.out _ ?_
      clear hK K
      iterate 1 (
        apply Lp.one ?_ rfl
        · intro w hw
          have k0 := HF.out _ hw
          go_simp
          exact rfl
        intro K hK
        go_simp
        refine hK.out _ ?_
        clear hK K)
      apply Lp.any rfl
      · intro w hw
        go_simp
        exact Lp.ret (r5most _ _ _ _)
      intro K hK
      rintro v rfl
      go_simp
      refine hK.out _ ?_
      clear hK K
      apply Lp.any rfl
      · intro w hw
        go_simp
        exact Lp.ret (rsame_true (Sm.refl _) _)
      intro K hK
      rintro v rfl
      go_simp
      refine hK.out _ ?_
      clear hK K
      iterate 3 (
        apply Lp.one ?_ rfl
        · intro w hw
          have k0 := HF.out _ hw
          go_simp
          exact rfl
        intro K hK
        go_simp
        refine hK.out _ ?_
        clear hK K)
      apply Lp.any rfl
      · intro w hw
        go_simp
        exact Lp.ret (rgb_mean _ _ _ _)
      intro K hK
      rintro v ⟨m, rfl, hm⟩
      go_simp
      refine hK.out _ ?_
      clear hK K
      iterate 1 (
        apply Lp.one ?_ rfl
        · intro w hw
          have k0 := HF.out _ hw
          go_simp
          exact rfl
        intro K hK
        go_simp
        refine hK.out _ ?_
        clear hK K)
      apply Lp.any rfl
      · intro w hw
        go_simp
        exact Lp.ret (r5mean _ _ _ _)
      intro K hK
      rintro v ⟨n, rfl, hn⟩
      go_simp
      refine hK.out _ ?_
      clear hK K
      apply Lp.any rfl
      · intro w hw
        go_simp
        exact Lp.ret (rsame_true (hm.sm.trans hn.sm.symm) _)
      intro K hK
      rintro v rfl
      go_simp
      refine hK.out _ ?_
      clear hK K
      iterate 3 (
        apply Lp.one ?_ rfl
        · intro w hw
          have k0 := HF.out _ hw
          go_simp
          exact rfl
        intro K hK
        go_simp
        refine hK.out _ ?_
        clear hK K)
      apply Lp.any rfl
      · intro w hw
        go_simp
        exact Lp.ret (rgb_good _ _ _ _)
      intro K hK
      rintro v rfl
      go_simp
      refine hK.out _ ?_
      clear hK K
      iterate 1 (
        apply Lp.one ?_ rfl
        · intro w hw
          have k0 := HF.out _ hw
          go_simp
          exact rfl
        intro K hK
        go_simp
        refine hK.out _ ?_
        clear hK K)
      apply Lp.any rfl
      · intro w hw
        go_simp
        exact Lp.ret (r5good _ _ _ _)
      intro K hK
      rintro v rfl
      go_simp
      refine hK.out _ ?_
      clear hK K
      iterate 4 (
        apply Lp.one ?_ rfl
        · intro w hw
          have k0 := HF.out _ hw
          go_simp
          exact rfl
        intro K hK
        go_simp
        refine hK.out _ ?_
        clear hK K)
      apply Lp.any rfl
      · intro w hw
        go_simp
        exact Lp.ret (HK.out _)
      intro K hK
      rintro v rfl
      go_simp
      refine hK.out _ ?_
      clear hK K
      iterate 4 (
        apply Lp.one ?_ rfl
        · intro w hw
          have k0 := HF.out _ hw
          go_simp
          exact rfl
        intro K hK
        go_simp
        refine hK.out _ ?_
        clear hK K)
      apply Lp.skip (kd := none) rfl
      intro K hK
      go_simp
      refine hK.out _ ?_
      clear hK K
      apply Lp.skip (kd := none) rfl
      intro K hK
      go_simp
      refine hK.out _ ?_
      clear hK K
      apply Lp.skip (kd := none) rfl
      intro K hK
      go_simp
      refine hK.out _ ?_
      clear hK K
      iterate 2 (
        apply Lp.one ?_ rfl
        · intro w hw
          have k0 := HF.out _ hw
          go_simp
          exact rfl
        intro K hK
        go_simp
        refine hK.out _ ?_
        clear hK K)
      apply Lp.skip (kd := none) rfl
      intro K hK
      go_simp
      refine hK.out _ ?_
      clear hK K
      apply Lp.skip (kd := none) rfl
      intro K hK
      go_simp
      refine hK.out _ ?_
      clear hK K
      apply Lp.skip (kd := none) rfl
      intro K hK
      go_simp
      refine hK.out _ ?_
      clear hK K
      iterate 5 (
        apply Lp.one ?_ rfl
        · intro w hw
          have k0 := HF.out _ hw
          go_simp
          exact rfl
        intro K hK
        go_simp
        refine hK.out _ ?_
        clear hK K)
      apply Lp.any rfl
      · intro w hw
        go_simp
        exact Lp.ret (rgb_weight _ _ _ _)
      intro K hK
      rintro v rfl
      go_simp
      refine hK.out _ ?_
      clear hK K
      iterate 1 (
        apply Lp.one ?_ rfl
        · intro w hw
          have k0 := HF.out _ hw
          go_simp
          exact rfl
        intro K hK
        go_simp
        refine hK.out _ ?_
        clear hK K)
      apply Lp.any rfl
      · intro w hw
        go_simp
        exact Lp.ret (r5weight _ _ _ _)
      intro K hK
      rintro v rfl
      go_simp
      refine hK.out _ ?_
      clear hK K
      iterate 3 (
        apply Lp.one ?_ rfl
        · intro w hw
          have k0 := HF.out _ hw
          go_simp
          exact rfl
        intro K hK
        go_simp
        refine hK.out _ ?_
        clear hK K)
      rotate_left
      exact []
      intro v2 hm
      clear kA
      replace BA := BA.keep hm
      replace HB := HB.call hm
      clear hm
      have kA := BA.cell
      go_wp2_with fail
      go_ret
      exact ⟨_, rfl, rfl, HB⟩
    · have HK : Hid (∀ w, Ret Try.prog 22 #[.agg #[.float .f64 ax, .float .f64 ay, .float .f64 az]] w (fun v => v = .bool false)) := fun w => by have h := rgb_black ax ay az w; rw [hb] at h; exact h
      clear hb
      replace e1 : (FloatKind.f64.format.order ax 0 == some .eq) = true := e1
      replace e2 : (FloatKind.f64.format.order ay 0 == some .eq) = false := e2
      go_enter Try.func4, Try.ntmps4
      go_wp2_with fail
      refine Lp.settle (fun w' => Lp.Bk w' (w.heap.size) #[.float .f64 ax, .float .f64 ay, .float .f64 az] 24 ∧ Cl w w') ⟨(Lp.Bk.al _ _ _), (Below.refl _ _).alloc (by simp <;> omega) _⟩ ?_
      rintro v1 ⟨BA, HB⟩
      have kA := BA.cell
      apply Lp.wp_region_loose _ _ 48 (by kernel_rfl) (by kernel_rfl) (by kernel_rfl) (Below.refl _ _)
      apply Lp.facts
      · intro w1 hw
        exact (BA.cl hw).cell
      intro HF
      apply Lp.any rfl
      · intro w hw
        go_simp
        exact Lp.ret (awake5 _)
      intro K hK
      rintro v rfl
      go_simp
      refine hK.out _ ?_
      clear hK K
      iterate 2 (
        apply Lp.one ?_ rfl
        · intro w hw
          have k0 := HF.out _ hw
          go_simp
          exact rfl
        intro K hK
        go_simp
        refine hK.out _ ?_
        clear hK K)
      apply Lp.any rfl
      · intro w hw
        go_simp
        exact Lp.ret (rgb_most _ _ _ _)
      intro K hK
      rintro v rfl
      go_simp
      refine hK.out _ ?_
      clear hK K
      iterate 1 (
        apply Lp.one ?_ rfl
        · intro w hw
          have k0 := HF.out _ hw
          go_simp
          exact rfl
        intro K hK
        go_simp
        refine hK.out _ ?_
        clear hK K)
      apply Lp.any rfl
      · intro w hw
        go_simp
        exact Lp.ret (r5most _ _ _ _)
      intro K hK
      rintro v rfl
      go_simp
      refine hK.out _ ?_
      clear hK K
      apply Lp.any rfl
      · intro w hw
        go_simp
        exact Lp.ret (rsame_true (Sm.refl _) _)
      intro K hK
      rintro v rfl
      go_simp
      refine hK.out _ ?_
      clear hK K
      iterate 3 (
        apply Lp.one ?_ rfl
        · intro w hw
          have k0 := HF.out _ hw
          go_simp
          exact rfl
        intro K hK
        go_simp
        refine hK.out _ ?_
        clear hK K)
      apply Lp.any rfl
      · intro w hw
        go_simp
        exact Lp.ret (rgb_mean _ _ _ _)
      intro K hK
      rintro v ⟨m, rfl, hm⟩
      go_simp
      refine hK.out _ ?_
      clear hK K
      iterate 1 (
        apply Lp.one ?_ rfl
        · intro w hw
          have k0 := HF.out _ hw
          go_simp
          exact rfl
        intro K hK
        go_simp
        refine hK.out _ ?_
        clear hK K)
      apply Lp.any rfl
      · intro w hw
        go_simp
        exact Lp.ret (r5mean _ _ _ _)
      intro K hK
      rintro v ⟨n, rfl, hn⟩
      go_simp
      refine hK.out _ ?_
      clear hK K
      apply Lp.any rfl
      · intro w hw
        go_simp
        exact Lp.ret (rsame_true (hm.sm.trans hn.sm.symm) _)
      intro K hK
      rintro v rfl
      go_simp
      refine hK.out _ ?_
      clear hK K
      iterate 3 (
        apply Lp.one ?_ rfl
        · intro w hw
          have k0 := HF.out _ hw
          go_simp
          exact rfl
        intro K hK
        go_simp
        refine hK.out _ ?_
        clear hK K)
      apply Lp.any rfl
      · intro w hw
        go_simp
        exact Lp.ret (rgb_good _ _ _ _)
      intro K hK
      rintro v rfl
      go_simp
      refine hK.out _ ?_
      clear hK K
      iterate 1 (
        apply Lp.one ?_ rfl
        · intro w hw
          have k0 := HF.out _ hw
          go_simp
          exact rfl
        intro K hK
        go_simp
        refine hK.out _ ?_
        clear hK K)
      apply Lp.any rfl
      · intro w hw
        go_simp
        exact Lp.ret (r5good _ _ _ _)
      intro K hK
      rintro v rfl
      go_simp
      refine hK.out _ ?_
      clear hK K
      iterate 4 (
        apply Lp.one ?_ rfl
        · intro w hw
          have k0 := HF.out _ hw
          go_simp
          exact rfl
        intro K hK
        go_simp
        refine hK.out _ ?_
        clear hK K)
      apply Lp.any rfl
      · intro w hw
        go_simp
        exact Lp.ret (HK.out _)
      intro K hK
      rintro v rfl
      go_simp
      refine hK.out _ ?_
      clear hK K
      iterate 9 (
        apply Lp.one ?_ rfl
        · intro w hw
          have k0 := HF.out _ hw
          go_simp
          exact rfl
        intro K hK
        go_simp
        refine hK.out _ ?_
        clear hK K)
      apply Lp.skip (kd := none) rfl
      intro K hK
      go_simp
      refine hK.out _ ?_
      clear hK K
      apply Lp.skip (kd := none) rfl
      intro K hK
      go_simp
      refine hK.out _ ?_
      clear hK K
      apply Lp.skip (kd := none) rfl
      intro K hK
      go_simp
      refine hK.out _ ?_
      clear hK K
      iterate 5 (
        apply Lp.one ?_ rfl
        · intro w hw
          have k0 := HF.out _ hw
          go_simp
          exact rfl
        intro K hK
        go_simp
        refine hK.out _ ?_
        clear hK K)
      apply Lp.any rfl
      · intro w hw
        go_simp
        exact Lp.ret (rgb_weight _ _ _ _)
      intro K hK
      rintro v rfl
      go_simp
      refine hK.out _ ?_
      clear hK K
      iterate 1 (
        apply Lp.one ?_ rfl
        · intro w hw
          have k0 := HF.out _ hw
          go_simp
          exact rfl
        intro K hK
        go_simp
        refine hK.out _ ?_
        clear hK K)
      apply Lp.any rfl
      · intro w hw
        go_simp
        exact Lp.ret (r5weight _ _ _ _)
      intro K hK
      rintro v rfl
      go_simp
      refine hK.out _ ?_
      clear hK K
      iterate 3 (
        apply Lp.one ?_ rfl
        · intro w hw
          have k0 := HF.out _ hw
          go_simp
          exact rfl
        intro K hK
        go_simp
        refine hK.out _ ?_
        clear hK K)
      rotate_left
      exact []
      intro v2 hm
      clear kA
      replace BA := BA.keep hm
      replace HB := HB.call hm
      clear hm
      have kA := BA.cell
      go_wp2_with fail
      go_ret
      exact ⟨_, rfl, rfl, HB⟩
    · have HK : Hid (∀ w, Ret Try.prog 22 #[.agg #[.float .f64 ax, .float .f64 ay, .float .f64 az]] w (fun v => v = .bool false)) := fun w => by have h := rgb_black ax ay az w; rw [hb] at h; exact h
      clear hb
      replace e1 : (FloatKind.f64.format.order ax 0 == some .eq) = true := e1
      replace e2 : (FloatKind.f64.format.order ay 0 == some .eq) = true := e2
      replace e3 : (FloatKind.f64.format.order az 0 == some .eq) = false := e3
      go_enter Try.func4, Try.ntmps4
      go_wp2_with fail
      refine Lp.settle (fun w' => Lp.Bk w' (w.heap.size) #[.float .f64 ax, .float .f64 ay, .float .f64 az] 24 ∧ Cl w w') ⟨(Lp.Bk.al _ _ _), (Below.refl _ _).alloc (by simp <;> omega) _⟩ ?_
      rintro v1 ⟨BA, HB⟩
      have kA := BA.cell
      apply Lp.wp_region_loose _ _ 48 (by kernel_rfl) (by kernel_rfl) (by kernel_rfl) (Below.refl _ _)
      apply Lp.facts
      · intro w1 hw
        exact (BA.cl hw).cell
      intro HF
      apply Lp.any rfl
      · intro w hw
        go_simp
        exact Lp.ret (awake5 _)
      intro K hK
      rintro v rfl
      go_simp
      refine hK.out _ ?_
      clear hK K
      iterate 2 (
        apply Lp.one ?_ rfl
        · intro w hw
          have k0 := HF.out _ hw
          go_simp
          exact rfl
        intro K hK
        go_simp
        refine hK.out _ ?_
        clear hK K)
      apply Lp.any rfl
      · intro w hw
        go_simp
        exact Lp.ret (rgb_most _ _ _ _)
      intro K hK
      rintro v rfl
      go_simp
      refine hK.out _ ?_
      clear hK K
      iterate 1 (
        apply Lp.one ?_ rfl
        · intro w hw
          have k0 := HF.out _ hw
          go_simp
          exact rfl
        intro K hK
        go_simp
        refine hK.out _ ?_
        clear hK K)
      apply Lp.any rfl
      · intro w hw
        go_simp
        exact Lp.ret (r5most _ _ _ _)
      intro K hK
      rintro v rfl
      go_simp
      refine hK.out _ ?_
      clear hK K
      apply Lp.any rfl
      · intro w hw
        go_simp
        exact Lp.ret (rsame_true (Sm.refl _) _)
      intro K hK
      rintro v rfl
      go_simp
      refine hK.out _ ?_
      clear hK K
      iterate 3 (
        apply Lp.one ?_ rfl
        · intro w hw
          have k0 := HF.out _ hw
          go_simp
          exact rfl
        intro K hK
        go_simp
        refine hK.out _ ?_
        clear hK K)
      apply Lp.any rfl
      · intro w hw
        go_simp
        exact Lp.ret (rgb_mean _ _ _ _)
      intro K hK
      rintro v ⟨m, rfl, hm⟩
      go_simp
      refine hK.out _ ?_
      clear hK K
      iterate 1 (
        apply Lp.one ?_ rfl
        · intro w hw
          have k0 := HF.out _ hw
          go_simp
          exact rfl
        intro K hK
        go_simp
        refine hK.out _ ?_
        clear hK K)
      apply Lp.any rfl
      · intro w hw
        go_simp
        exact Lp.ret (r5mean _ _ _ _)
      intro K hK
      rintro v ⟨n, rfl, hn⟩
      go_simp
      refine hK.out _ ?_
      clear hK K
      apply Lp.any rfl
      · intro w hw
        go_simp
        exact Lp.ret (rsame_true (hm.sm.trans hn.sm.symm) _)
      intro K hK
      rintro v rfl
      go_simp
      refine hK.out _ ?_
      clear hK K
      iterate 3 (
        apply Lp.one ?_ rfl
        · intro w hw
          have k0 := HF.out _ hw
          go_simp
          exact rfl
        intro K hK
        go_simp
        refine hK.out _ ?_
        clear hK K)
      apply Lp.any rfl
      · intro w hw
        go_simp
        exact Lp.ret (rgb_good _ _ _ _)
      intro K hK
      rintro v rfl
      go_simp
      refine hK.out _ ?_
      clear hK K
      iterate 1 (
        apply Lp.one ?_ rfl
        · intro w hw
          have k0 := HF.out _ hw
          go_simp
          exact rfl
        intro K hK
        go_simp
        refine hK.out _ ?_
        clear hK K)
      apply Lp.any rfl
      · intro w hw
        go_simp
        exact Lp.ret (r5good _ _ _ _)
      intro K hK
      rintro v rfl
      go_simp
      refine hK.out _ ?_
      clear hK K
      iterate 4 (
        apply Lp.one ?_ rfl
        · intro w hw
          have k0 := HF.out _ hw
          go_simp
          exact rfl
        intro K hK
        go_simp
        refine hK.out _ ?_
        clear hK K)
      apply Lp.any rfl
      · intro w hw
        go_simp
        exact Lp.ret (HK.out _)
      intro K hK
      rintro v rfl
      go_simp
      refine hK.out _ ?_
      clear hK K
      iterate 17 (
        apply Lp.one ?_ rfl
        · intro w hw
          have k0 := HF.out _ hw
          go_simp
          exact rfl
        intro K hK
        go_simp
        refine hK.out _ ?_
        clear hK K)
      apply Lp.any rfl
      · intro w hw
        go_simp
        exact Lp.ret (rgb_weight _ _ _ _)
      intro K hK
      rintro v rfl
      go_simp
      refine hK.out _ ?_
      clear hK K
      iterate 1 (
        apply Lp.one ?_ rfl
        · intro w hw
          have k0 := HF.out _ hw
          go_simp
          exact rfl
        intro K hK
        go_simp
        refine hK.out _ ?_
        clear hK K)
      apply Lp.any rfl
      · intro w hw
        go_simp
        exact Lp.ret (r5weight _ _ _ _)
      intro K hK
      rintro v rfl
      go_simp
      refine hK.out _ ?_
      clear hK K
      iterate 3 (
        apply Lp.one ?_ rfl
        · intro w hw
          have k0 := HF.out _ hw
          go_simp
          exact rfl
        intro K hK
        go_simp
        refine hK.out _ ?_
        clear hK K)
      rotate_left
      exact []
      intro v2 hm
      clear kA
      replace BA := BA.keep hm
      replace HB := HB.call hm
      clear hm
      have kA := BA.cell
      go_wp2_with fail
      go_ret
      exact ⟨_, rfl, rfl, HB⟩
  · obtain ⟨e1, e2, e3⟩ := bl_all hb
    have HK : Hid (∀ w, Ret Try.prog 22 #[.agg #[.float .f64 ax, .float .f64 ay, .float .f64 az]] w (fun v => v = .bool true)) := fun w => by have h := rgb_black ax ay az w; rw [hb] at h; exact h
    clear hb
    replace e1 : (FloatKind.f64.format.order ax 0 == some .eq) = true := e1
    replace e2 : (FloatKind.f64.format.order ay 0 == some .eq) = true := e2
    replace e3 : (FloatKind.f64.format.order az 0 == some .eq) = true := e3
    go_enter Try.func4, Try.ntmps4
    go_wp2_with fail
    refine Lp.settle (fun w' => Lp.Bk w' (w.heap.size) #[.float .f64 ax, .float .f64 ay, .float .f64 az] 24 ∧ Cl w w') ⟨(Lp.Bk.al _ _ _), (Below.refl _ _).alloc (by simp <;> omega) _⟩ ?_
    rintro v1 ⟨BA, HB⟩
    have kA := BA.cell
    apply Lp.wp_region_loose _ _ 48 (by kernel_rfl) (by kernel_rfl) (by kernel_rfl) (Below.refl _ _)
    apply Lp.facts
    · intro w1 hw
      exact (BA.cl hw).cell
    intro HF
    apply Lp.any rfl
    · intro w hw
      go_simp
      exact Lp.ret (awake5 _)
    intro K hK
    rintro v rfl
    go_simp
    refine hK.out _ ?_
    clear hK K
    iterate 2 (
      apply Lp.one ?_ rfl
      · intro w hw
        have k0 := HF.out _ hw
        go_simp
        exact rfl
      intro K hK
      go_simp
      refine hK.out _ ?_
      clear hK K)
    apply Lp.any rfl
    · intro w hw
      go_simp
      exact Lp.ret (rgb_most _ _ _ _)
    intro K hK
    rintro v rfl
    go_simp
    refine hK.out _ ?_
    clear hK K
    iterate 1 (
      apply Lp.one ?_ rfl
      · intro w hw
        have k0 := HF.out _ hw
        go_simp
        exact rfl
      intro K hK
      go_simp
      refine hK.out _ ?_
      clear hK K)
    apply Lp.any rfl
    · intro w hw
      go_simp
      exact Lp.ret (r5most _ _ _ _)
    intro K hK
    rintro v rfl
    go_simp
    refine hK.out _ ?_
    clear hK K
    apply Lp.any rfl
    · intro w hw
      go_simp
      exact Lp.ret (rsame_true (Sm.refl _) _)
    intro K hK
    rintro v rfl
    go_simp
    refine hK.out _ ?_
    clear hK K
    iterate 3 (
      apply Lp.one ?_ rfl
      · intro w hw
        have k0 := HF.out _ hw
        go_simp
        exact rfl
      intro K hK
      go_simp
      refine hK.out _ ?_
      clear hK K)
    apply Lp.any rfl
    · intro w hw
      go_simp
      exact Lp.ret (rgb_mean _ _ _ _)
    intro K hK
    rintro v ⟨m, rfl, hm⟩
    go_simp
    refine hK.out _ ?_
    clear hK K
    iterate 1 (
      apply Lp.one ?_ rfl
      · intro w hw
        have k0 := HF.out _ hw
        go_simp
        exact rfl
      intro K hK
      go_simp
      refine hK.out _ ?_
      clear hK K)
    apply Lp.any rfl
    · intro w hw
      go_simp
      exact Lp.ret (r5mean _ _ _ _)
    intro K hK
    rintro v ⟨n, rfl, hn⟩
    go_simp
    refine hK.out _ ?_
    clear hK K
    apply Lp.any rfl
    · intro w hw
      go_simp
      exact Lp.ret (rsame_true (hm.sm.trans hn.sm.symm) _)
    intro K hK
    rintro v rfl
    go_simp
    refine hK.out _ ?_
    clear hK K
    iterate 3 (
      apply Lp.one ?_ rfl
      · intro w hw
        have k0 := HF.out _ hw
        go_simp
        exact rfl
      intro K hK
      go_simp
      refine hK.out _ ?_
      clear hK K)
    apply Lp.any rfl
    · intro w hw
      go_simp
      exact Lp.ret (rgb_good _ _ _ _)
    intro K hK
    rintro v rfl
    go_simp
    refine hK.out _ ?_
    clear hK K
    iterate 1 (
      apply Lp.one ?_ rfl
      · intro w hw
        have k0 := HF.out _ hw
        go_simp
        exact rfl
      intro K hK
      go_simp
      refine hK.out _ ?_
      clear hK K)
    apply Lp.any rfl
    · intro w hw
      go_simp
      exact Lp.ret (r5good _ _ _ _)
    intro K hK
    rintro v rfl
    go_simp
    refine hK.out _ ?_
    clear hK K
    iterate 4 (
      apply Lp.one ?_ rfl
      · intro w hw
        have k0 := HF.out _ hw
        go_simp
        exact rfl
      intro K hK
      go_simp
      refine hK.out _ ?_
      clear hK K)
    apply Lp.any rfl
    · intro w hw
      go_simp
      exact Lp.ret (HK.out _)
    intro K hK
    rintro v rfl
    go_simp
    refine hK.out _ ?_
    clear hK K
    iterate 17 (
      apply Lp.one ?_ rfl
      · intro w hw
        have k0 := HF.out _ hw
        go_simp
        exact rfl
      intro K hK
      go_simp
      refine hK.out _ ?_
      clear hK K)
    apply Lp.any rfl
    · intro w hw
      go_simp
      exact Lp.ret (rgb_weight _ _ _ _)
    intro K hK
    rintro v rfl
    go_simp
    refine hK.out _ ?_
    clear hK K
    iterate 1 (
      apply Lp.one ?_ rfl
      · intro w hw
        have k0 := HF.out _ hw
        go_simp
        exact rfl
      intro K hK
      go_simp
      refine hK.out _ ?_
      clear hK K)
    apply Lp.any rfl
    · intro w hw
      go_simp
      exact Lp.ret (r5weight _ _ _ _)
    intro K hK
    rintro v rfl
    go_simp
    refine hK.out _ ?_
    clear hK K
    iterate 3 (
      apply Lp.one ?_ rfl
      · intro w hw
        have k0 := HF.out _ hw
        go_simp
        exact rfl
      intro K hK
      go_simp
      refine hK.out _ ?_
      clear hK K)
    rotate_left
    exact []
    intro v2 hm
    clear kA
    replace BA := BA.keep hm
    replace HB := HB.call hm
    clear hm
    have kA := BA.cell
    go_wp2_with fail
    go_ret
    exact ⟨_, rfl, rfl, HB⟩

end Go.Proofs.Ytldblpgopgggdaa
