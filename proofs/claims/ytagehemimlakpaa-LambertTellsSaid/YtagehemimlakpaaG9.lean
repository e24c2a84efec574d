/- Package lambert: product, Density, Eval, Sample, Weight. The reference's Is, Add, Mul, Scale. The reference's Sector. -/
import Derived.Deep.LoopGhost
import Derived.Test.YtagehemimlakpaaRows
import Derived.Test.YtagehemimlakpaaG7
import Derived.Test.YtagehemimlakpaaG8
import Derived.Test.YtagehemimlakpaaG5
import Derived.Test.YtagehemimlakpaaG6
namespace Go.Proofs.Ytagehemimlakpaa
open Go.RowKit Fl

theorem rgbscale_c {ax ay az k K : Nat} {A : V3} (w : World) (ha : S3 ax ay az A) (hk : Sm k K) : Ret Try.prog 29 #[.agg #[.float .f64 ax, .float .f64 ay, .float .f64 az], .float .f64 k] w (isP (A.scale K)) :=
  (rgb_scale ax ay az k w).mono (isV.toP (scale_w ha hk))

theorem wd_none : Wd 0 := by unfold Wd; omega
theorem wden_c (x y : Nat) (w : World) : Ret Try.prog 20 #[.float .f64 x, .float .f64 y] w (fun v => v = .float .f64 (densF (shareF (fabs x) (fabs y)))) :=
  (densi_any x y w).mono fun _ _ ⟨he, hb⟩ => ⟨_, he, rfl, hb⟩

set_option maxRecDepth 100000 in
set_option maxHeartbeats 1000000 in
theorem lprod_c {x y X Y : Nat} (hx : Sm x X) (hy : Sm y Y) (w : World) : Ret Try.prog 19 #[.float .f64 x, .float .f64 y] w (isF (fmul X Y)) := by
  unfold Ret
  have HD := hid (And.intro hx hy)
  clear hx hy
  go_enter Try.func19, Try.ntmps19
  go_wp2_with fail
  refine upon_mul HD.out.1 HD.out.2 ?_
  intro r n hr
  go_wp2_with fail
  go_ret
  exact ⟨_, rfl, ⟨r, rfl, hr⟩, by repeat (first | exact Below.refl _ _ | refine below_dr ?_ _)⟩

set_option maxRecDepth 100000 in
set_option maxHeartbeats 1000000 in
theorem lden_any (ox oy oz x y z : Nat) (w : World) : Ret Try.prog 6 #[.agg #[.float .f64 ox, .float .f64 oy, .float .f64 oz], .agg #[.float .f64 x, .float .f64 y, .float .f64 z]] w (fun v => v = .float .f64 (denL oz x y z)) := by
  unfold Ret
  have HU := hid (fun w => upper_any ox oy oz x y z w)
  have HD := hid (fun w => wden_c x y w)
  have HN := hid (fun r (h : Eqv r (denP x y z)) => numB_congr h.sm)
  have HE := hid (fun (hb : numB (denP x y z) = true) r (h : Eqv r (denP x y z)) => show r = denP x y z from (h.sm.symm.eq (not_nan_num (num_of_fin hb))).symm)
  have HP := hid (show fmul (fmul 4611686018427387904 (densF (shareF (fabs x) (fabs y)))) z = denP x y z from rfl)
  unfold denL
  generalize denP x y z = P at *
  generalize densF (shareF (fabs x) (fabs y)) = D at *
  generalize upperB oz z = a at *
  generalize numB P = b at *
  cases a
  · go_enter Try.func6, Try.ntmps6
    go_wp2_with fail
    refine Lp.settleC (fun w' => Lp.Bk w' (w.heap.size) #[.float .f64 ox, .float .f64 oy, .float .f64 oz] 26 ∧ Lp.Bk w' (w.heap.size + 1) #[.float .f64 x, .float .f64 y, .float .f64 z] 26 ∧ Cl w w') ⟨((Lp.Bk.al _ _ _).alo _), (Lp.Bk.al1 _ _ _ _), ((Below.refl _ _).alloc (by simp <;> omega) _).alloc (by simp <;> omega) _⟩ ?_
    rintro v1 ⟨BO, BI, HB⟩
    have kO := BO.cell
    have kI := BI.cell
    have nO0 : (w.heap.size = v1.heap.size) = False := eq_false (by have := BO.lt; omega)
    have mO0 : w.heap.size < v1.heap.size := by have := BO.lt; omega
    have nO1 : (w.heap.size = v1.heap.size + 1) = False := eq_false (by have := BO.lt; omega)
    have mO1 : w.heap.size < v1.heap.size + 1 := by have := BO.lt; omega
    have nI0 : (w.heap.size + 1 = v1.heap.size) = False := eq_false (by have := BI.lt; omega)
    have mI0 : w.heap.size + 1 < v1.heap.size := by have := BI.lt; omega
    have nI1 : (w.heap.size = v1.heap.size) = False := eq_false (by have := BI.lt; omega)
    have mI1 : w.heap.size < v1.heap.size := by have := BI.lt; omega
    refine Calls.mono (HU.out _) ?_
    rintro e v2 ⟨v, rfl, rfl, hm⟩
    clear kO kI nO0 mO0 nO1 mO1 nI0 mI0 nI1 mI1
    replace BO := BO.keep hm
    replace BI := BI.keep hm
    replace HB := HB.call hm
    clear hm
    have kO := BO.cell
    have kI := BI.cell
    have nO0 : (w.heap.size = v2.heap.size) = False := eq_false (by have := BO.lt; omega)
    have mO0 : w.heap.size < v2.heap.size := by have := BO.lt; omega
    have nO1 : (w.heap.size = v2.heap.size + 1) = False := eq_false (by have := BO.lt; omega)
    have mO1 : w.heap.size < v2.heap.size + 1 := by have := BO.lt; omega
    have nI0 : (w.heap.size + 1 = v2.heap.size) = False := eq_false (by have := BI.lt; omega)
    have mI0 : w.heap.size + 1 < v2.heap.size := by have := BI.lt; omega
    have nI1 : (w.heap.size = v2.heap.size) = False := eq_false (by have := BI.lt; omega)
    have mI1 : w.heap.size < v2.heap.size := by have := BI.lt; omega
    go_wp2_with fail
    go_ret
    exact ⟨_, rfl, rfl, HB⟩
  · cases b
    · go_enter Try.func6, Try.ntmps6
      go_wp2_with fail
      refine Lp.settleC (fun w' => Lp.Bk w' (w.heap.size) #[.float .f64 ox, .float .f64 oy, .float .f64 oz] 26 ∧ Lp.Bk w' (w.heap.size + 1) #[.float .f64 x, .float .f64 y, .float .f64 z] 26 ∧ Cl w w') ⟨((Lp.Bk.al _ _ _).alo _), (Lp.Bk.al1 _ _ _ _), ((Below.refl _ _).alloc (by simp <;> omega) _).alloc (by simp <;> omega) _⟩ ?_
      rintro v1 ⟨BO, BI, HB⟩
      have kO := BO.cell
      have kI := BI.cell
      have nO0 : (w.heap.size = v1.heap.size) = False := eq_false (by have := BO.lt; omega)
      have mO0 : w.heap.size < v1.heap.size := by have := BO.lt; omega
      have nO1 : (w.heap.size = v1.heap.size + 1) = False := eq_false (by have := BO.lt; omega)
      have mO1 : w.heap.size < v1.heap.size + 1 := by have := BO.lt; omega
      have nI0 : (w.heap.size + 1 = v1.heap.size) = False := eq_false (by have := BI.lt; omega)
      have mI0 : w.heap.size + 1 < v1.heap.size := by have := BI.lt; omega
      have nI1 : (w.heap.size = v1.heap.size) = False := eq_false (by have := BI.lt; omega)
      have mI1 : w.heap.size < v1.heap.size := by have := BI.lt; omega
      refine Calls.mono (HU.out _) ?_
      rintro e v2 ⟨v, rfl, rfl, hm⟩
      clear kO kI nO0 mO0 nO1 mO1 nI0 mI0 nI1 mI1
      replace BO := BO.keep hm
      replace BI := BI.keep hm
      replace HB := HB.call hm
      clear hm
      have kO := BO.cell
      have kI := BI.cell
      have nO0 : (w.heap.size = v2.heap.size) = False := eq_false (by have := BO.lt; omega)
      have mO0 : w.heap.size < v2.heap.size := by have := BO.lt; omega
      have nO1 : (w.heap.size = v2.heap.size + 1) = False := eq_false (by have := BO.lt; omega)
      have mO1 : w.heap.size < v2.heap.size + 1 := by have := BO.lt; omega
      have nI0 : (w.heap.size + 1 = v2.heap.size) = False := eq_false (by have := BI.lt; omega)
      have mI0 : w.heap.size + 1 < v2.heap.size := by have := BI.lt; omega
      have nI1 : (w.heap.size = v2.heap.size) = False := eq_false (by have := BI.lt; omega)
      have mI1 : w.heap.size < v2.heap.size := by have := BI.lt; omega
      go_wp2_with fail
      apply Lp.wp_region_loose _ _ 10 (by kernel_rfl) (by kernel_rfl) (by kernel_rfl) (Below.refl _ _)
      apply Lp.facts
      · intro w1 hw
        exact And.intro (BO.cl hw).cell ((BI.cl hw).cell)
      intro HF
      iterate 4 (
        apply Lp.one ?_ rfl
        · intro w hw
          obtain ⟨k0, k1⟩ := HF.out _ hw
          go_simp
          exact rfl
        intro K hK
        go_simp
        refine hK.out _ ?_
        clear hK K)
      apply Lp.any rfl
      · intro w hw
        go_simp
        exact Lp.ret (HD.out _)
      intro K hK
      rintro v rfl
      go_simp
      refine hK.out _ ?_
      clear hK K
      apply Lp.any rfl
      · intro w hw
        go_simp
        exact Lp.ret (lprod_c (Sm.refl _) (Sm.refl _) _)
      intro K hK
      rintro v ⟨r1, rfl, h1⟩
      go_simp
      refine hK.out _ ?_
      clear hK K
      iterate 1 (
        apply Lp.one ?_ rfl
        · intro w hw
          obtain ⟨k0, k1⟩ := HF.out _ hw
          go_simp
          exact rfl
        intro K hK
        go_simp
        refine hK.out _ ?_
        clear hK K)
      apply Lp.any rfl
      · intro w hw
        go_simp
        exact Lp.ret (cos_any _ _ _ _)
      intro K hK
      rintro v rfl
      go_simp
      refine hK.out _ ?_
      clear hK K
      apply Lp.any rfl
      · intro w hw
        go_simp
        exact Lp.ret (lprod_c h1.sm (Sm.refl _) _)
      intro K hK
      rintro v ⟨r2, rfl, h2⟩
      go_simp
      refine hK.out _ ?_
      clear hK K
      iterate 1 (
        apply Lp.one ?_ rfl
        · intro w hw
          obtain ⟨k0, k1⟩ := HF.out _ hw
          go_simp
          exact rfl
        intro K hK
        go_simp
        refine hK.out _ ?_
        clear hK K)
      rotate_left
      exact []
      intro v3 hm
      clear kO kI nO0 mO0 nO1 mO1 nI0 mI0 nI1 mI1
      replace BO := BO.keep hm
      replace BI := BI.keep hm
      replace HB := HB.call hm
      clear hm
      have kO := BO.cell
      have kI := BI.cell
      have nO0 : (w.heap.size = v3.heap.size) = False := eq_false (by have := BO.lt; omega)
      have mO0 : w.heap.size < v3.heap.size := by have := BO.lt; omega
      have nO1 : (w.heap.size = v3.heap.size + 1) = False := eq_false (by have := BO.lt; omega)
      have mO1 : w.heap.size < v3.heap.size + 1 := by have := BO.lt; omega
      have nI0 : (w.heap.size + 1 = v3.heap.size) = False := eq_false (by have := BI.lt; omega)
      have mI0 : w.heap.size + 1 < v3.heap.size := by have := BI.lt; omega
      have nI1 : (w.heap.size = v3.heap.size) = False := eq_false (by have := BI.lt; omega)
      have mI1 : w.heap.size < v3.heap.size := by have := BI.lt; omega
      go_wp2_with fail
      rw [HP.out] at h2
      have HM := hid (fun w => number_any r2 w)
      rw [HN.out r2 h2] at HM
      refine Calls.mono (HM.out _) ?_
      rintro e w' ⟨rfl, hw⟩
      obtain rfl := hw.symm
      clear hw
      go_wp2_with fail
      go_ret
      exact ⟨_, rfl, rfl, HB⟩
    · go_enter Try.func6, Try.ntmps6
      go_wp2_with fail
      refine Lp.settleC (fun w' => Lp.Bk w' (w.heap.size) #[.float .f64 ox, .float .f64 oy, .float .f64 oz] 26 ∧ Lp.Bk w' (w.heap.size + 1) #[.float .f64 x, .float .f64 y, .float .f64 z] 26 ∧ Cl w w') ⟨((Lp.Bk.al _ _ _).alo _), (Lp.Bk.al1 _ _ _ _), ((Below.refl _ _).alloc (by simp <;> omega) _).alloc (by simp <;> omega) _⟩ ?_
      rintro v1 ⟨BO, BI, HB⟩
      have kO := BO.cell
      have kI := BI.cell
      have nO0 : (w.heap.size = v1.heap.size) = False := eq_false (by have := BO.lt; omega)
      have mO0 : w.heap.size < v1.heap.size := by have := BO.lt; omega
      have nO1 : (w.heap.size = v1.heap.size + 1) = False := eq_false (by have := BO.lt; omega)
      have mO1 : w.heap.size < v1.heap.size + 1 := by have := BO.lt; omega
      have nI0 : (w.heap.size + 1 = v1.heap.size) = False := eq_false (by have := BI.lt; omega)
      have mI0 : w.heap.size + 1 < v1.heap.size := by have := BI.lt; omega
      have nI1 : (w.heap.size = v1.heap.size) = False := eq_false (by have := BI.lt; omega)
      have mI1 : w.heap.size < v1.heap.size := by have := BI.lt; omega
      refine Calls.mono (HU.out _) ?_
      rintro e v2 ⟨v, rfl, rfl, hm⟩
      clear kO kI nO0 mO0 nO1 mO1 nI0 mI0 nI1 mI1
      replace BO := BO.keep hm
      replace BI := BI.keep hm
      replace HB := HB.call hm
      clear hm
      have kO := BO.cell
      have kI := BI.cell
      have nO0 : (w.heap.size = v2.heap.size) = False := eq_false (by have := BO.lt; omega)
      have mO0 : w.heap.size < v2.heap.size := by have := BO.lt; omega
      have nO1 : (w.heap.size = v2.heap.size + 1) = False := eq_false (by have := BO.lt; omega)
      have mO1 : w.heap.size < v2.heap.size + 1 := by have := BO.lt; omega
      have nI0 : (w.heap.size + 1 = v2.heap.size) = False := eq_false (by have := BI.lt; omega)
      have mI0 : w.heap.size + 1 < v2.heap.size := by have := BI.lt; omega
      have nI1 : (w.heap.size = v2.heap.size) = False := eq_false (by have := BI.lt; omega)
      have mI1 : w.heap.size < v2.heap.size := by have := BI.lt; omega
      go_wp2_with fail
      apply Lp.wp_region_loose _ _ 10 (by kernel_rfl) (by kernel_rfl) (by kernel_rfl) (Below.refl _ _)
      apply Lp.facts
      · intro w1 hw
        exact And.intro (BO.cl hw).cell ((BI.cl hw).cell)
      intro HF
      iterate 4 (
        apply Lp.one ?_ rfl
        · intro w hw
          obtain ⟨k0, k1⟩ := HF.out _ hw
          go_simp
          exact rfl
        intro K hK
        go_simp
        refine hK.out _ ?_
        clear hK K)
      apply Lp.any rfl
      · intro w hw
        go_simp
        exact Lp.ret (HD.out _)
      intro K hK
      rintro v rfl
      go_simp
      refine hK.out _ ?_
      clear hK K
      apply Lp.any rfl
      · intro w hw
        go_simp
        exact Lp.ret (lprod_c (Sm.refl _) (Sm.refl _) _)
      intro K hK
      rintro v ⟨r1, rfl, h1⟩
      go_simp
      refine hK.out _ ?_
      clear hK K
      iterate 1 (
        apply Lp.one ?_ rfl
        · intro w hw
          obtain ⟨k0, k1⟩ := HF.out _ hw
          go_simp
          exact rfl
        intro K hK
        go_simp
        refine hK.out _ ?_
        clear hK K)
      apply Lp.any rfl
      · intro w hw
        go_simp
        exact Lp.ret (cos_any _ _ _ _)
      intro K hK
      rintro v rfl
      go_simp
      refine hK.out _ ?_
      clear hK K
      apply Lp.any rfl
      · intro w hw
        go_simp
        exact Lp.ret (lprod_c h1.sm (Sm.refl _) _)
      intro K hK
      rintro v ⟨r2, rfl, h2⟩
      go_simp
      refine hK.out _ ?_
      clear hK K
      iterate 1 (
        apply Lp.one ?_ rfl
        · intro w hw
          obtain ⟨k0, k1⟩ := HF.out _ hw
          go_simp
          exact rfl
        intro K hK
        go_simp
        refine hK.out _ ?_
        clear hK K)
      rotate_left
      exact []
      intro v3 hm
      clear kO kI nO0 mO0 nO1 mO1 nI0 mI0 nI1 mI1
      replace BO := BO.keep hm
      replace BI := BI.keep hm
      replace HB := HB.call hm
      clear hm
      have kO := BO.cell
      have kI := BI.cell
      have nO0 : (w.heap.size = v3.heap.size) = False := eq_false (by have := BO.lt; omega)
      have mO0 : w.heap.size < v3.heap.size := by have := BO.lt; omega
      have nO1 : (w.heap.size = v3.heap.size + 1) = False := eq_false (by have := BO.lt; omega)
      have mO1 : w.heap.size < v3.heap.size + 1 := by have := BO.lt; omega
      have nI0 : (w.heap.size + 1 = v3.heap.size) = False := eq_false (by have := BI.lt; omega)
      have mI0 : w.heap.size + 1 < v3.heap.size := by have := BI.lt; omega
      have nI1 : (w.heap.size = v3.heap.size) = False := eq_false (by have := BI.lt; omega)
      have mI1 : w.heap.size < v3.heap.size := by have := BI.lt; omega
      go_wp2_with fail
      rw [HP.out] at h2
      have HM := hid (fun w => number_any r2 w)
      rw [HN.out r2 h2] at HM
      have hr := HE.out (by first | rfl | trivial) r2 h2
      refine Calls.mono (HM.out _) ?_
      rintro e w' ⟨rfl, hw⟩
      obtain rfl := hw.symm
      clear hw
      go_wp2_with fail
      go_ret
      exact ⟨_, rfl, rfl, HB⟩

set_option maxRecDepth 100000 in
set_option maxHeartbeats 1000000 in
theorem lev_any (k0 k1 k2 ox oy oz x y z : Nat) (w : World) : Ret Try.prog 9 #[.agg #[.float .f64 k0, .float .f64 k1, .float .f64 k2], .agg #[.float .f64 ox, .float .f64 oy, .float .f64 oz], .agg #[.float .f64 x, .float .f64 y, .float .f64 z]] w (isP (evV (upperB oz z) ⟨k0, k1, k2⟩)) := by
  unfold Ret
  have HU := hid (fun w => upper_any ox oy oz x y z w)
  generalize upperB oz z = a at *
  cases a
  · go_enter Try.func9, Try.ntmps9
    go_wp2_with fail
    refine Lp.settleC (fun w' => Lp.Bk w' (w.heap.size) #[.float .f64 k0, .float .f64 k1, .float .f64 k2] 24 ∧ Lp.Bk w' (w.heap.size + 1) #[.float .f64 ox, .float .f64 oy, .float .f64 oz] 26 ∧ Lp.Bk w' (w.heap.size + 1 + 1) #[.float .f64 x, .float .f64 y, .float .f64 z] 26 ∧ Lp.Bk w' (w.heap.size + 1 + 1 + 1) #[.float .f64 0, .float .f64 0, .float .f64 0] 24 ∧ Cl w w') ⟨((((Lp.Bk.al _ _ _).alo _).alo _).alo _), (((Lp.Bk.al1 _ _ _ _).alo _).alo _), ((Lp.Bk.al2 _ _ _ _ _).alo _), (Lp.Bk.al3 _ _ _ _ _ _), ((((Below.refl _ _).alloc (by simp <;> omega) _).alloc (by simp <;> omega) _).alloc (by simp <;> omega) _).alloc (by simp <;> omega) _⟩ ?_
    rintro v1 ⟨BK, BO, BI, BR, HB⟩
    have kK := BK.cell
    have kO := BO.cell
    have kI := BI.cell
    have kR := BR.cell
    have zR := BR.frz
    have nK0 : (w.heap.size = v1.heap.size) = False := eq_false (by have := BK.lt; omega)
    have mK0 : w.heap.size < v1.heap.size := by have := BK.lt; omega
    have nK1 : (w.heap.size = v1.heap.size + 1) = False := eq_false (by have := BK.lt; omega)
    have mK1 : w.heap.size < v1.heap.size + 1 := by have := BK.lt; omega
    have nO0 : (w.heap.size + 1 = v1.heap.size) = False := eq_false (by have := BO.lt; omega)
    have mO0 : w.heap.size + 1 < v1.heap.size := by have := BO.lt; omega
    have nO1 : (w.heap.size = v1.heap.size) = False := eq_false (by have := BO.lt; omega)
    have mO1 : w.heap.size < v1.heap.size := by have := BO.lt; omega
    have nI0 : (w.heap.size + 1 + 1 = v1.heap.size) = False := eq_false (by have := BI.lt; omega)
    have mI0 : w.heap.size + 1 + 1 < v1.heap.size := by have := BI.lt; omega
    have nI1 : (w.heap.size + 1 = v1.heap.size) = False := eq_false (by have := BI.lt; omega)
    have mI1 : w.heap.size + 1 < v1.heap.size := by have := BI.lt; omega
    have nR0 : (w.heap.size + 1 + 1 + 1 = v1.heap.size) = False := eq_false (by have := BR.lt; omega)
    have mR0 : w.heap.size + 1 + 1 + 1 < v1.heap.size := by have := BR.lt; omega
    have nR1 : (w.heap.size + 1 + 1 = v1.heap.size) = False := eq_false (by have := BR.lt; omega)
    have mR1 : w.heap.size + 1 + 1 < v1.heap.size := by have := BR.lt; omega
    refine Calls.mono (HU.out _) ?_
    rintro e v2 ⟨v, rfl, rfl, hm⟩
    clear kK kO kI kR zR nK0 mK0 nK1 mK1 nO0 mO0 nO1 mO1 nI0 mI0 nI1 mI1 nR0 mR0 nR1 mR1
    replace BK := BK.keep hm
    replace BO := BO.keep hm
    replace BI := BI.keep hm
    replace BR := BR.keep hm
    replace HB := HB.call hm
    clear hm
    have kK := BK.cell
    have kO := BO.cell
    have kI := BI.cell
    have kR := BR.cell
    have zR := BR.frz
    have nK0 : (w.heap.size = v2.heap.size) = False := eq_false (by have := BK.lt; omega)
    have mK0 : w.heap.size < v2.heap.size := by have := BK.lt; omega
    have nK1 : (w.heap.size = v2.heap.size + 1) = False := eq_false (by have := BK.lt; omega)
    have mK1 : w.heap.size < v2.heap.size + 1 := by have := BK.lt; omega
    have nO0 : (w.heap.size + 1 = v2.heap.size) = False := eq_false (by have := BO.lt; omega)
    have mO0 : w.heap.size + 1 < v2.heap.size := by have := BO.lt; omega
    have nO1 : (w.heap.size = v2.heap.size) = False := eq_false (by have := BO.lt; omega)
    have mO1 : w.heap.size < v2.heap.size := by have := BO.lt; omega
    have nI0 : (w.heap.size + 1 + 1 = v2.heap.size) = False := eq_false (by have := BI.lt; omega)
    have mI0 : w.heap.size + 1 + 1 < v2.heap.size := by have := BI.lt; omega
    have nI1 : (w.heap.size + 1 = v2.heap.size) = False := eq_false (by have := BI.lt; omega)
    have mI1 : w.heap.size + 1 < v2.heap.size := by have := BI.lt; omega
    have nR0 : (w.heap.size + 1 + 1 + 1 = v2.heap.size) = False := eq_false (by have := BR.lt; omega)
    have mR0 : w.heap.size + 1 + 1 + 1 < v2.heap.size := by have := BR.lt; omega
    have nR1 : (w.heap.size + 1 + 1 = v2.heap.size) = False := eq_false (by have := BR.lt; omega)
    have mR1 : w.heap.size + 1 + 1 < v2.heap.size := by have := BR.lt; omega
    go_wp2_with fail
    refine bodyPost_ret (v := .agg #[.float .f64 0, .float .f64 0, .float .f64 0]) (by simp [results, go_sem, kR]) rfl ⟨_, rfl, ⟨0, 0, 0, rfl, ⟨Sm.refl _, Sm.refl _, Sm.refl _⟩, ⟨wd_none, wd_none, wd_none⟩⟩, ?_⟩
    repeat (refine Below.setCell ?_ (by dsimp only; omega) _)
    exact HB
  · go_enter Try.func9, Try.ntmps9
    go_wp2_with fail
    refine Lp.settleC (fun w' => Lp.Bk w' (w.heap.size) #[.float .f64 k0, .float .f64 k1, .float .f64 k2] 24 ∧ Lp.Bk w' (w.heap.size + 1) #[.float .f64 ox, .float .f64 oy, .float .f64 oz] 26 ∧ Lp.Bk w' (w.heap.size + 1 + 1) #[.float .f64 x, .float .f64 y, .float .f64 z] 26 ∧ Lp.Bk w' (w.heap.size + 1 + 1 + 1) #[.float .f64 0, .float .f64 0, .float .f64 0] 24 ∧ Cl w w') ⟨((((Lp.Bk.al _ _ _).alo _).alo _).alo _), (((Lp.Bk.al1 _ _ _ _).alo _).alo _), ((Lp.Bk.al2 _ _ _ _ _).alo _), (Lp.Bk.al3 _ _ _ _ _ _), ((((Below.refl _ _).alloc (by simp <;> omega) _).alloc (by simp <;> omega) _).alloc (by simp <;> omega) _).alloc (by simp <;> omega) _⟩ ?_
    rintro v1 ⟨BK, BO, BI, BR, HB⟩
    have kK := BK.cell
    have kO := BO.cell
    have kI := BI.cell
    have kR := BR.cell
    have zR := BR.frz
    have nK0 : (w.heap.size = v1.heap.size) = False := eq_false (by have := BK.lt; omega)
    have mK0 : w.heap.size < v1.heap.size := by have := BK.lt; omega
    have nK1 : (w.heap.size = v1.heap.size + 1) = False := eq_false (by have := BK.lt; omega)
    have mK1 : w.heap.size < v1.heap.size + 1 := by have := BK.lt; omega
    have nO0 : (w.heap.size + 1 = v1.heap.size) = False := eq_false (by have := BO.lt; omega)
    have mO0 : w.heap.size + 1 < v1.heap.size := by have := BO.lt; omega
    have nO1 : (w.heap.size = v1.heap.size) = False := eq_false (by have := BO.lt; omega)
    have mO1 : w.heap.size < v1.heap.size := by have := BO.lt; omega
    have nI0 : (w.heap.size + 1 + 1 = v1.heap.size) = False := eq_false (by have := BI.lt; omega)
    have mI0 : w.heap.size + 1 + 1 < v1.heap.size := by have := BI.lt; omega
    have nI1 : (w.heap.size + 1 = v1.heap.size) = False := eq_false (by have := BI.lt; omega)
    have mI1 : w.heap.size + 1 < v1.heap.size := by have := BI.lt; omega
    have nR0 : (w.heap.size + 1 + 1 + 1 = v1.heap.size) = False := eq_false (by have := BR.lt; omega)
    have mR0 : w.heap.size + 1 + 1 + 1 < v1.heap.size := by have := BR.lt; omega
    have nR1 : (w.heap.size + 1 + 1 = v1.heap.size) = False := eq_false (by have := BR.lt; omega)
    have mR1 : w.heap.size + 1 + 1 < v1.heap.size := by have := BR.lt; omega
    refine Calls.mono (HU.out _) ?_
    rintro e v2 ⟨v, rfl, rfl, hm⟩
    clear kK kO kI kR zR nK0 mK0 nK1 mK1 nO0 mO0 nO1 mO1 nI0 mI0 nI1 mI1 nR0 mR0 nR1 mR1
    replace BK := BK.keep hm
    replace BO := BO.keep hm
    replace BI := BI.keep hm
    replace BR := BR.keep hm
    replace HB := HB.call hm
    clear hm
    have kK := BK.cell
    have kO := BO.cell
    have kI := BI.cell
    have kR := BR.cell
    have zR := BR.frz
    have nK0 : (w.heap.size = v2.heap.size) = False := eq_false (by have := BK.lt; omega)
    have mK0 : w.heap.size < v2.heap.size := by have := BK.lt; omega
    have nK1 : (w.heap.size = v2.heap.size + 1) = False := eq_false (by have := BK.lt; omega)
    have mK1 : w.heap.size < v2.heap.size + 1 := by have := BK.lt; omega
    have nO0 : (w.heap.size + 1 = v2.heap.size) = False := eq_false (by have := BO.lt; omega)
    have mO0 : w.heap.size + 1 < v2.heap.size := by have := BO.lt; omega
    have nO1 : (w.heap.size = v2.heap.size) = False := eq_false (by have := BO.lt; omega)
    have mO1 : w.heap.size < v2.heap.size := by have := BO.lt; omega
    have nI0 : (w.heap.size + 1 + 1 = v2.heap.size) = False := eq_false (by have := BI.lt; omega)
    have mI0 : w.heap.size + 1 + 1 < v2.heap.size := by have := BI.lt; omega
    have nI1 : (w.heap.size + 1 = v2.heap.size) = False := eq_false (by have := BI.lt; omega)
    have mI1 : w.heap.size + 1 < v2.heap.size := by have := BI.lt; omega
    have nR0 : (w.heap.size + 1 + 1 + 1 = v2.heap.size) = False := eq_false (by have := BR.lt; omega)
    have mR0 : w.heap.size + 1 + 1 + 1 < v2.heap.size := by have := BR.lt; omega
    have nR1 : (w.heap.size + 1 + 1 = v2.heap.size) = False := eq_false (by have := BR.lt; omega)
    have mR1 : w.heap.size + 1 + 1 < v2.heap.size := by have := BR.lt; omega
    go_wp2_with fail
    refine upon_div (Sm.refl _) (Sm.refl _) ?_
    intro r1 n1 h1
    go_wp2_with fail
    refine upon_div (Sm.refl _) (Sm.refl _) ?_
    intro r2 n2 h2
    go_wp2_with fail
    refine upon_div (Sm.refl _) (Sm.refl _) ?_
    intro r3 n3 h3
    go_wp2_with fail
    refine bodyPost_ret (v := .agg #[.float .f64 r1, .float .f64 r2, .float .f64 r3]) (by simp [results, go_sem, kR]) rfl ⟨_, rfl, ⟨r1, r2, r3, rfl, ⟨h1.sm, h2.sm, h3.sm⟩, ⟨h1.wd, h2.wd, h3.wd⟩⟩, ?_⟩
    repeat (refine Below.setCell ?_ (by dsimp only; omega) _)
    repeat (refine below_dr ?_ _)
    exact HB

theorem hemi_c (u v : Nat) (w : World) : Ret Try.prog 26 #[.float .f64 u, .float .f64 v] w (fun e => e = .tuple #[.agg #[.float .f64 (drX u v), .float .f64 (drY u v), .float .f64 (drZ u)], .float .f64 (fmul (drQ v) (drZ u))]) :=
  (hemi_any u v w).mono fun _ _ ⟨he, hb⟩ => ⟨_, he, rfl, hb⟩

set_option maxRecDepth 100000 in
set_option maxHeartbeats 1000000 in
theorem lsam_any (ox oy oz u v : Nat) (w : World) : Ret Try.prog 12 #[.agg #[.float .f64 ox, .float .f64 oy, .float .f64 oz], .float .f64 u, .float .f64 v] w (fun e => e = .tuple #[.agg #[.float .f64 (cond (upperB oz (drZ u)) (drX u v) 0), .float .f64 (cond (upperB oz (drZ u)) (drY u v) 0), .float .f64 (cond (upperB oz (drZ u)) (drZ u) 0)], .bool (upperB oz (drZ u))]) := by
  unfold Ret
  have HU := hid (fun w => upper_any ox oy oz (drX u v) (drY u v) (drZ u) w)
  have HH := hid (fun w => hemi_c u v w)
  generalize upperB oz (drZ u) = a at *
  generalize fmul (drQ v) (drZ u) = q at *
  generalize drX u v = x at *
  generalize drY u v = y at *
  generalize drZ u = z at *
  cases a
  · go_enter Try.func12, Try.ntmps12
    go_wp2_with fail
    refine Lp.settleC (fun w' => Lp.Bk w' (w.heap.size) #[.float .f64 ox, .float .f64 oy, .float .f64 oz] 26 ∧ Lp.Bk w' (w.heap.size + 1) #[.float .f64 0, .float .f64 0, .float .f64 0] 26 ∧ Cl w w') ⟨((Lp.Bk.al _ _ _).alo _), (Lp.Bk.al1 _ _ _ _), ((Below.refl _ _).alloc (by simp <;> omega) _).alloc (by simp <;> omega) _⟩ ?_
    rintro v1 ⟨BO, BR, HB⟩
    have kO := BO.cell
    have kR := BR.cell
    have zR := BR.frz
    have nO0 : (w.heap.size = v1.heap.size) = False := eq_false (by have := BO.lt; omega)
    have mO0 : w.heap.size < v1.heap.size := by have := BO.lt; omega
    have nO1 : (w.heap.size = v1.heap.size + 1) = False := eq_false (by have := BO.lt; omega)
    have mO1 : w.heap.size < v1.heap.size + 1 := by have := BO.lt; omega
    have nR0 : (w.heap.size + 1 = v1.heap.size) = False := eq_false (by have := BR.lt; omega)
    have mR0 : w.heap.size + 1 < v1.heap.size := by have := BR.lt; omega
    have nR1 : (w.heap.size = v1.heap.size) = False := eq_false (by have := BR.lt; omega)
    have mR1 : w.heap.size < v1.heap.size := by have := BR.lt; omega
    refine Calls.mono (HH.out _) ?_
    rintro e v2 ⟨v, rfl, rfl, hm⟩
    clear kO kR zR nO0 mO0 nO1 mO1 nR0 mR0 nR1 mR1
    replace BO := BO.keep hm
    replace BR := BR.keep hm
    replace HB := HB.call hm
    clear hm
    have kO := BO.cell
    have kR := BR.cell
    have zR := BR.frz
    have nO0 : (w.heap.size = v2.heap.size) = False := eq_false (by have := BO.lt; omega)
    have mO0 : w.heap.size < v2.heap.size := by have := BO.lt; omega
    have nO1 : (w.heap.size = v2.heap.size + 1) = False := eq_false (by have := BO.lt; omega)
    have mO1 : w.heap.size < v2.heap.size + 1 := by have := BO.lt; omega
    have nR0 : (w.heap.size + 1 = v2.heap.size) = False := eq_false (by have := BR.lt; omega)
    have mR0 : w.heap.size + 1 < v2.heap.size := by have := BR.lt; omega
    have nR1 : (w.heap.size = v2.heap.size) = False := eq_false (by have := BR.lt; omega)
    have mR1 : w.heap.size < v2.heap.size := by have := BR.lt; omega
    go_wp2_with fail
    refine Lp.settleC (fun w' => Lp.Bk w' (w.heap.size) #[.float .f64 ox, .float .f64 oy, .float .f64 oz] 26 ∧ Lp.Bk w' (w.heap.size + 1) #[.float .f64 0, .float .f64 0, .float .f64 0] 26 ∧ Lp.Bk w' (v2.heap.size) #[.float .f64 x, .float .f64 y, .float .f64 z] 26 ∧ Cl w w') ⟨(BO).alo _, (BR).alo _, Lp.Bk.al _ _ _, (HB).alloc _⟩ ?_
    clear kO kR zR nO0 mO0 nO1 mO1 nR0 mR0 nR1 mR1
    clear BO BR HB
    rintro v3 ⟨BO, BR, BI, HB⟩
    have kO := BO.cell
    have kR := BR.cell
    have kI := BI.cell
    have zR := BR.frz
    have nO0 : (w.heap.size = v3.heap.size) = False := eq_false (by have := BO.lt; omega)
    have mO0 : w.heap.size < v3.heap.size := by have := BO.lt; omega
    have nO1 : (w.heap.size = v3.heap.size + 1) = False := eq_false (by have := BO.lt; omega)
    have mO1 : w.heap.size < v3.heap.size + 1 := by have := BO.lt; omega
    have nR0 : (w.heap.size + 1 = v3.heap.size) = False := eq_false (by have := BR.lt; omega)
    have mR0 : w.heap.size + 1 < v3.heap.size := by have := BR.lt; omega
    have nR1 : (w.heap.size = v3.heap.size) = False := eq_false (by have := BR.lt; omega)
    have mR1 : w.heap.size < v3.heap.size := by have := BR.lt; omega
    have nI0 : (v2.heap.size = v3.heap.size) = False := eq_false (by have := BI.lt; omega)
    have mI0 : v2.heap.size < v3.heap.size := by have := BI.lt; omega
    have nI1 : (v2.heap.size = v3.heap.size + 1) = False := eq_false (by have := BI.lt; omega)
    have mI1 : v2.heap.size < v3.heap.size + 1 := by have := BI.lt; omega
    refine Calls.mono (HU.out _) ?_
    rintro e v4 ⟨v, rfl, rfl, hm⟩
    clear kO kR kI zR nO0 mO0 nO1 mO1 nR0 mR0 nR1 mR1 nI0 mI0 nI1 mI1
    replace BO := BO.keep hm
    replace BR := BR.keep hm
    replace BI := BI.keep hm
    replace HB := HB.call hm
    clear hm
    have kO := BO.cell
    have kR := BR.cell
    have kI := BI.cell
    have zR := BR.frz
    have nO0 : (w.heap.size = v4.heap.size) = False := eq_false (by have := BO.lt; omega)
    have mO0 : w.heap.size < v4.heap.size := by have := BO.lt; omega
    have nO1 : (w.heap.size = v4.heap.size + 1) = False := eq_false (by have := BO.lt; omega)
    have mO1 : w.heap.size < v4.heap.size + 1 := by have := BO.lt; omega
    have nR0 : (w.heap.size + 1 = v4.heap.size) = False := eq_false (by have := BR.lt; omega)
    have mR0 : w.heap.size + 1 < v4.heap.size := by have := BR.lt; omega
    have nR1 : (w.heap.size = v4.heap.size) = False := eq_false (by have := BR.lt; omega)
    have mR1 : w.heap.size < v4.heap.size := by have := BR.lt; omega
    have nI0 : (v2.heap.size = v4.heap.size) = False := eq_false (by have := BI.lt; omega)
    have mI0 : v2.heap.size < v4.heap.size := by have := BI.lt; omega
    have nI1 : (v2.heap.size = v4.heap.size + 1) = False := eq_false (by have := BI.lt; omega)
    have mI1 : v2.heap.size < v4.heap.size + 1 := by have := BI.lt; omega
    go_wp2_with fail
    refine bodyPost_ret (v := .tuple #[.agg #[.float .f64 0, .float .f64 0, .float .f64 0], .bool false]) (by simp [results, go_sem, kR]) rfl ⟨_, rfl, rfl, ?_⟩
    repeat (refine Below.setCell ?_ (by dsimp only; omega) _)
    exact HB
  · go_enter Try.func12, Try.ntmps12
    go_wp2_with fail
    refine Lp.settleC (fun w' => Lp.Bk w' (w.heap.size) #[.float .f64 ox, .float .f64 oy, .float .f64 oz] 26 ∧ Lp.Bk w' (w.heap.size + 1) #[.float .f64 0, .float .f64 0, .float .f64 0] 26 ∧ Cl w w') ⟨((Lp.Bk.al _ _ _).alo _), (Lp.Bk.al1 _ _ _ _), ((Below.refl _ _).alloc (by simp <;> omega) _).alloc (by simp <;> omega) _⟩ ?_
    rintro v1 ⟨BO, BR, HB⟩
    have kO := BO.cell
    have kR := BR.cell
    have zR := BR.frz
    have nO0 : (w.heap.size = v1.heap.size) = False := eq_false (by have := BO.lt; omega)
    have mO0 : w.heap.size < v1.heap.size := by have := BO.lt; omega
    have nO1 : (w.heap.size = v1.heap.size + 1) = False := eq_false (by have := BO.lt; omega)
    have mO1 : w.heap.size < v1.heap.size + 1 := by have := BO.lt; omega
    have nR0 : (w.heap.size + 1 = v1.heap.size) = False := eq_false (by have := BR.lt; omega)
    have mR0 : w.heap.size + 1 < v1.heap.size := by have := BR.lt; omega
    have nR1 : (w.heap.size = v1.heap.size) = False := eq_false (by have := BR.lt; omega)
    have mR1 : w.heap.size < v1.heap.size := by have := BR.lt; omega
    refine Calls.mono (HH.out _) ?_
    rintro e v2 ⟨v, rfl, rfl, hm⟩
    clear kO kR zR nO0 mO0 nO1 mO1 nR0 mR0 nR1 mR1
    replace BO := BO.keep hm
    replace BR := BR.keep hm
    replace HB := HB.call hm
    clear hm
    have kO := BO.cell
    have kR := BR.cell
    have zR := BR.frz
    have nO0 : (w.heap.size = v2.heap.size) = False := eq_false (by have := BO.lt; omega)
    have mO0 : w.heap.size < v2.heap.size := by have := BO.lt; omega
    have nO1 : (w.heap.size = v2.heap.size + 1) = False := eq_false (by have := BO.lt; omega)
    have mO1 : w.heap.size < v2.heap.size + 1 := by have := BO.lt; omega
    have nR0 : (w.heap.size + 1 = v2.heap.size) = False := eq_false (by have := BR.lt; omega)
    have mR0 : w.heap.size + 1 < v2.heap.size := by have := BR.lt; omega
    have nR1 : (w.heap.size = v2.heap.size) = False := eq_false (by have := BR.lt; omega)
    have mR1 : w.heap.size < v2.heap.size := by have := BR.lt; omega
    go_wp2_with fail
    refine Lp.settleC (fun w' => Lp.Bk w' (w.heap.size) #[.float .f64 ox, .float .f64 oy, .float .f64 oz] 26 ∧ Lp.Bk w' (w.heap.size + 1) #[.float .f64 0, .float .f64 0, .float .f64 0] 26 ∧ Lp.Bk w' (v2.heap.size) #[.float .f64 x, .float .f64 y, .float .f64 z] 26 ∧ Cl w w') ⟨(BO).alo _, (BR).alo _, Lp.Bk.al _ _ _, (HB).alloc _⟩ ?_
    clear kO kR zR nO0 mO0 nO1 mO1 nR0 mR0 nR1 mR1
    clear BO BR HB
    rintro v3 ⟨BO, BR, BI, HB⟩
    have kO := BO.cell
    have kR := BR.cell
    have kI := BI.cell
    have zR := BR.frz
    have nO0 : (w.heap.size = v3.heap.size) = False := eq_false (by have := BO.lt; omega)
    have mO0 : w.heap.size < v3.heap.size := by have := BO.lt; omega
    have nO1 : (w.heap.size = v3.heap.size + 1) = False := eq_false (by have := BO.lt; omega)
    have mO1 : w.heap.size < v3.heap.size + 1 := by have := BO.lt; omega
    have nR0 : (w.heap.size + 1 = v3.heap.size) = False := eq_false (by have := BR.lt; omega)
    have mR0 : w.heap.size + 1 < v3.heap.size := by have := BR.lt; omega
    have nR1 : (w.heap.size = v3.heap.size) = False := eq_false (by have := BR.lt; omega)
    have mR1 : w.heap.size < v3.heap.size := by have := BR.lt; omega
    have nI0 : (v2.heap.size = v3.heap.size) = False := eq_false (by have := BI.lt; omega)
    have mI0 : v2.heap.size < v3.heap.size := by have := BI.lt; omega
    have nI1 : (v2.heap.size = v3.heap.size + 1) = False := eq_false (by have := BI.lt; omega)
    have mI1 : v2.heap.size < v3.heap.size + 1 := by have := BI.lt; omega
    refine Calls.mono (HU.out _) ?_
    rintro e v4 ⟨v, rfl, rfl, hm⟩
    clear kO kR kI zR nO0 mO0 nO1 mO1 nR0 mR0 nR1 mR1 nI0 mI0 nI1 mI1
    replace BO := BO.keep hm
    replace BR := BR.keep hm
    replace BI := BI.keep hm
    replace HB := HB.call hm
    clear hm
    have kO := BO.cell
    have kR := BR.cell
    have kI := BI.cell
    have zR := BR.frz
    have nO0 : (w.heap.size = v4.heap.size) = False := eq_false (by have := BO.lt; omega)
    have mO0 : w.heap.size < v4.heap.size := by have := BO.lt; omega
    have nO1 : (w.heap.size = v4.heap.size + 1) = False := eq_false (by have := BO.lt; omega)
    have mO1 : w.heap.size < v4.heap.size + 1 := by have := BO.lt; omega
    have nR0 : (w.heap.size + 1 = v4.heap.size) = False := eq_false (by have := BR.lt; omega)
    have mR0 : w.heap.size + 1 < v4.heap.size := by have := BR.lt; omega
    have nR1 : (w.heap.size = v4.heap.size) = False := eq_false (by have := BR.lt; omega)
    have mR1 : w.heap.size < v4.heap.size := by have := BR.lt; omega
    have nI0 : (v2.heap.size = v4.heap.size) = False := eq_false (by have := BI.lt; omega)
    have mI0 : v2.heap.size < v4.heap.size := by have := BI.lt; omega
    have nI1 : (v2.heap.size = v4.heap.size + 1) = False := eq_false (by have := BI.lt; omega)
    have mI1 : v2.heap.size < v4.heap.size + 1 := by have := BI.lt; omega
    go_wp2_with fail
    refine bodyPost_ret (v := .tuple #[.agg #[.float .f64 x, .float .f64 y, .float .f64 z], .bool true]) (by simp [results, go_sem, kR]) rfl ⟨_, rfl, rfl, ?_⟩
    repeat (refine Below.setCell ?_ (by dsimp only; omega) _)
    exact HB

end Go.Proofs.Ytagehemimlakpaa

namespace Go.Proofs.Ytagehemimlakpaa
open Go.RowKit Fl

theorem rsame_true {x y : Nat} (h : Sm x y) (w : World) : Ret Try.prog 23 #[.float .f64 x, .float .f64 y] w (fun v => v = .bool true) :=
  (rsame_any x y w).mono fun _ _ ⟨he, hw⟩ => ⟨_, he, by rw [sameB_of h], by rw [hw]; exact Below.refl _ _⟩

set_option maxRecDepth 100000 in
set_option maxHeartbeats 1000000 in
theorem is5_true {ax ay az bx bY bz : Nat} (h0 : Sm ax bx) (h1 : Sm ay bY) (h2 : Sm az bz) (w : World) : Ret Try.prog 8 #[.agg #[.float .f64 ax, .float .f64 ay, .float .f64 az], .agg #[.float .f64 bx, .float .f64 bY, .float .f64 bz]] w (fun v => v = .bool true) := by
  unfold Ret
  go_enter Try.func8, Try.ntmps8
  go_wp2_with fail
  refine Lp.settleC (fun w' => Lp.Bk w' (w.heap.size) #[.float .f64 ax, .float .f64 ay, .float .f64 az] 24 ∧ Lp.Bk w' (w.heap.size + 1) #[.float .f64 bx, .float .f64 bY, .float .f64 bz] 24 ∧ Cl w w') ⟨((Lp.Bk.al _ _ _).alo _), (Lp.Bk.al1 _ _ _ _), ((Below.refl _ _).alloc (by simp <;> omega) _).alloc (by simp <;> omega) _⟩ ?_
  rintro v1 ⟨BA, BB, HB⟩
  have kA := BA.cell
  have kB := BB.cell
  refine Calls.mono (rsame_true h0 _) ?_
  rintro e v2 ⟨v, rfl, rfl, hm⟩
  clear kA kB
  replace BA := BA.keep hm
  replace BB := BB.keep hm
  replace HB := HB.call hm
  clear hm
  have kA := BA.cell
  have kB := BB.cell
  go_wp2_with fail
  refine Calls.mono (rsame_true h1 _) ?_
  rintro e v3 ⟨v, rfl, rfl, hm⟩
  clear kA kB
  replace BA := BA.keep hm
  replace BB := BB.keep hm
  replace HB := HB.call hm
  clear hm
  have kA := BA.cell
  have kB := BB.cell
  go_wp2_with fail
  refine Calls.mono (rsame_true h2 _) ?_
  rintro e v4 ⟨v, rfl, rfl, hm⟩
  clear kA kB
  replace BA := BA.keep hm
  replace BB := BB.keep hm
  replace HB := HB.call hm
  clear hm
  have kA := BA.cell
  have kB := BB.cell
  go_wp2_with fail
  go_ret
  exact ⟨_, rfl, rfl, HB⟩

set_option maxRecDepth 100000 in
set_option maxHeartbeats 1000000 in
theorem r5scale (ax ay az k : Nat) (w : World) : Ret Try.prog 17 #[.agg #[.float .f64 ax, .float .f64 ay, .float .f64 az], .float .f64 k] w (isV (fmul ax k) (fmul ay k) (fmul az k)) := by
  unfold Ret
  go_enter Try.func17, Try.ntmps17
  go_wp2_with fail
  refine upon_mul (Sm.refl _) (Sm.refl _) ?_
  intro r1 n1 h1
  go_wp2_with fail
  refine upon_mul (Sm.refl _) (Sm.refl _) ?_
  intro r2 n2 h2
  go_wp2_with fail
  refine upon_mul (Sm.refl _) (Sm.refl _) ?_
  intro r3 n3 h3
  go_wp2_with fail
  refine bodyPost_ret (v := .agg #[.float .f64 r1, .float .f64 r2, .float .f64 r3]) (by simp [results, go_sem]) rfl ⟨_, rfl, ⟨_, _, _, rfl, by assumption, by assumption, by assumption⟩, (((((Cl.drewN (Below.refl _ _) _).out2).setCell (by simp <;> omega) _).setCell (by simp <;> omega) _).setCell (by simp <;> omega) _)⟩

end Go.Proofs.Ytagehemimlakpaa

namespace Go.Proofs.Ytagehemimlakpaa
open Go.RowKit Fl

/-- The swap, and the signs, of a sector. -/
theorem dir_form {c s : Nat} {k : Nat} (hk : k ≤ 7) : dirX c s k = (if 2 ≤ k ∧ k ≤ 5 then fsub 0 (if k = 1 ∨ k = 2 ∨ k = 5 ∨ k = 6 then s else c) else (if k = 1 ∨ k = 2 ∨ k = 5 ∨ k = 6 then s else c)) ∧ dirY c s k = (if 4 ≤ k then fsub 0 (if k = 1 ∨ k = 2 ∨ k = 5 ∨ k = 6 then c else s) else (if k = 1 ∨ k = 2 ∨ k = 5 ∨ k = 6 then c else s)) := by
  have h : k = 0 ∨ k = 1 ∨ k = 2 ∨ k = 3 ∨ k = 4 ∨ k = 5 ∨ k = 6 ∨ k = 7 := by omega
  rcases h with rfl | rfl | rfl | rfl | rfl | rfl | rfl | rfl <;> exact ⟨rfl, rfl⟩
theorem convF (n : Int) (w : World) : (convert 3 22 (.int .i64 n)).run Try.prog w = .ok (.float .f64 (floatOfInt .f64 n)) w := by
  kernel_rfl

set_option maxRecDepth 100000 in
set_option maxHeartbeats 4000000 in
theorem rsector_any (u : Nat) (w : World) : Calls Try.prog 27 #[.float .f64 u] w fun e w' => e = .returned (.tuple #[.float .f64 (secX (cleanF u)), .float .f64 (secY (cleanF u)), .float .f64 (densF (secF (cleanF u)))]) ∧ w' = w := by
  have HC := hid (rclean_any u)
  obtain ⟨nc, c0, c1⟩ := clean_num u
  generalize cleanF u = c at *
  have S := sect nc c0 c1
  have hP : ∀ w, (binOp .mul 22 (.float .f64 4620693217682128896) (.float .f64 c)).run Try.prog w = .ok (.float .f64 (fmul w8 c)) w := fun w => run_mul_num w 22 num_w8 nc
  have hle := hid (fun (j : Nat) (hj : j ≤ 8) => sec_next nc c0 c1 hj)
  have hs : ∀ w, (binOp .sub 22 (.float .f64 (fmul w8 c)) (.float .f64 (floatOfInt .f64 (secK c : Int)))).run Try.prog w = .ok (.float .f64 (secF c)) w := fun w => run_sub_num w 22 S.n8 S.nk
  have hff : ∀ w, _ := fun w => run_mul_num (P := Try.prog) w 22 S.nf S.nf
  have hq : ∀ w, (binOp .add 22 (.float .f64 4607182418800017408) (.float .f64 (fmul (secF c) (secF c)))).run Try.prog w = .ok (.float .f64 (secQ (secF c))) w := fun w => run_add_num w 22 num_w1 S.nff
  have HR := hid (root_num S.sec.nq (by have := S.sec.q0; have := dl_le; grind))
  have hz : val (fsqrt (secQ (secF c))) ≠ 0 := by have h := S.sec.d0; unfold secD at h; clear HC hP hs hle HR hff hq; grind
  have hq1 : ∀ w, (binOp .quo 22 (.float .f64 4607182418800017408) (.float .f64 (fsqrt (secQ (secF c))))).run Try.prog w = .ok (.float .f64 (secC (secF c))) w := fun w => run_quo_num w 22 num_w1 S.sec.nd hz
  have hq2 : ∀ w, (binOp .quo 22 (.float .f64 (secF c)) (.float .f64 (fsqrt (secQ (secF c))))).run Try.prog w = .ok (.float .f64 (secS (secF c))) w := fun w => run_quo_num w 22 S.nf S.sec.nd hz
  have hn1 : ∀ w, _ := fun w => run_sub_num (P := Try.prog) w 22 num_zero S.sec.nc
  have hn2 : ∀ w, _ := fun w => run_sub_num (P := Try.prog) w 22 num_zero S.sec.ns
  have hp : ∀ w, (binOp .mul 22 (.float .f64 (secQ (secF c))) (.float .f64 4593671619917905920)).run Try.prog w = .ok (.float .f64 (densF (secF c))) w := fun w => run_mul_num w 22 S.sec.nq num_eighth
  have k7 := S.k7
  have hv := convF
  clear S nc c0 c1 hz
  unfold secX secY
  generalize densF (secF c) = p at *
  generalize secC (secF c) = C at *
  generalize secS (secF c) = Z at *
  generalize fsqrt (secQ (secF c)) = d at *
  generalize secQ (secF c) = q at *
  generalize fmul (secF c) (secF c) = ff at *
  generalize secF c = f at *
  generalize fmul w8 c = e8 at *
  generalize secK c = k at *
  have HK7 := aside k7
  have HL := aside (fun (i : Int) (h : i < k) (_ : 0 ≤ i) => (show leB (floatOfInt .f64 (i + 1)) e8 = true from by
    have := hle.out (i + 1).toNat (by omega)
    rw [show (((i + 1).toNat : Nat) : Int) = i + 1 by omega] at this
    rw [this]
    exact decide_eq_true (by omega)))
  have HG := aside (show leB (floatOfInt .f64 ((k : Int) + 1)) e8 = false from by
    have := hle.out (k + 1) (by omega)
    rw [show (((k + 1 : Nat) : Nat) : Int) = (k : Int) + 1 by omega] at this
    rw [this]
    exact decide_eq_false (by omega))
  have HS := aside hs
  clear hle k7 hs
  go_enter Try.func27, Try.ntmps27
  go_wp2_with fail
  refine Calls.mono (HC.out _) ?_
  rintro e w' ⟨rfl, hw⟩
  obtain rfl := hw.symm
  clear hw
  go_wp2_with fail
  go_loopg [6] k (fun g i wr => ∃ j : Int, 0 ≤ j ∧ g + j = k ∧ i = .int .i64 j ∧ wr = w)
  case atStart => exact ⟨0, by omega, by omega, rfl, rfl⟩
  case round =>
    obtain ⟨g0, hg0⟩ : ∃ g0, g0 = gk := ⟨_, rfl⟩
    subst hg0
    obtain ⟨j, hj0, hk, rfl, hwr⟩ := hrel
    obtain rfl := hwr.symm
    have HK := aside hk
    clear hk hwr
    have k7 := HK7.out
    cases g0 with
    | succ g =>
      have hlt : j < (k : Int) := by have := HK.out; omega
      have hd : (j < 7) = True := eq_true (by omega)
      have hl := HL.out j hlt hj0
      have hw : IntKind.i64.wrap (j + 1) = j + 1 := by rw [IntKind.wrap_i64]; omega
      replace hl : (FloatKind.f64.format.order (floatOfInt .f64 (j + 1)) e8 == some .lt || FloatKind.f64.format.order (floatOfInt .f64 (j + 1)) e8 == some .eq) = true := hl
      clear hlt
      go_wp2_with fail
      go_roundg g
      case measure => omega
      case rel => exact ⟨j + 1, by omega, by have := HK.out; omega, rfl, rfl⟩
    | zero =>
      have hjk : j = (k : Int) := by have := HK.out; omega
      have hl := HG.out
      have hs := HS.out
      rw [← hjk] at hl hs
      obtain ⟨m, hm⟩ : ∃ m, m = j + 1 := ⟨_, rfl⟩
      rw [← hm] at hl
      replace hl : (FloatKind.f64.format.order (floatOfInt .f64 m) e8 == some .lt || FloatKind.f64.format.order (floatOfInt .f64 m) e8 == some .eq) = false := hl
      have h8 : j = 0 ∨ j = 1 ∨ j = 2 ∨ j = 3 ∨ j = 4 ∨ j = 5 ∨ j = 6 ∨ j = 7 := by omega
      clear HK k7 HG HS HL HK7
      rcases h8 with rfl | rfl | rfl | rfl | rfl | rfl | rfl | rfl
      · obtain rfl : k = 0 := by omega
        obtain rfl : m = 1 := by omega
        clear hjk hj0 hm
        go_wp2_with fail
        refine Calls.mono (HR.out _) ?_
        rintro e w' ⟨rfl, hw⟩
        obtain rfl := hw.symm
        clear hw
        go_wp2_with fail
        exact bodyPost_ret (v := .tuple #[.float .f64 (dirX C Z 0), .float .f64 (dirY C Z 0), .float .f64 p]) (by simp [results, go_sem, dirX, dirY]) rfl ⟨rfl, rfl⟩
      · obtain rfl : k = 1 := by omega
        obtain rfl : m = 2 := by omega
        clear hjk hj0 hm
        go_wp2_with fail
        refine Calls.mono (HR.out _) ?_
        rintro e w' ⟨rfl, hw⟩
        obtain rfl := hw.symm
        clear hw
        go_wp2_with fail
        exact bodyPost_ret (v := .tuple #[.float .f64 (dirX C Z 1), .float .f64 (dirY C Z 1), .float .f64 p]) (by simp [results, go_sem, dirX, dirY]) rfl ⟨rfl, rfl⟩
      · obtain rfl : k = 2 := by omega
        obtain rfl : m = 3 := by omega
        clear hjk hj0 hm
        go_wp2_with fail
        refine Calls.mono (HR.out _) ?_
        rintro e w' ⟨rfl, hw⟩
        obtain rfl := hw.symm
        clear hw
        go_wp2_with fail
        exact bodyPost_ret (v := .tuple #[.float .f64 (dirX C Z 2), .float .f64 (dirY C Z 2), .float .f64 p]) (by simp [results, go_sem, dirX, dirY]) rfl ⟨rfl, rfl⟩
      · obtain rfl : k = 3 := by omega
        obtain rfl : m = 4 := by omega
        clear hjk hj0 hm
        go_wp2_with fail
        refine Calls.mono (HR.out _) ?_
        rintro e w' ⟨rfl, hw⟩
        obtain rfl := hw.symm
        clear hw
        go_wp2_with fail
        exact bodyPost_ret (v := .tuple #[.float .f64 (dirX C Z 3), .float .f64 (dirY C Z 3), .float .f64 p]) (by simp [results, go_sem, dirX, dirY]) rfl ⟨rfl, rfl⟩
      · obtain rfl : k = 4 := by omega
        obtain rfl : m = 5 := by omega
        clear hjk hj0 hm
        go_wp2_with fail
        refine Calls.mono (HR.out _) ?_
        rintro e w' ⟨rfl, hw⟩
        obtain rfl := hw.symm
        clear hw
        go_wp2_with fail
        exact bodyPost_ret (v := .tuple #[.float .f64 (dirX C Z 4), .float .f64 (dirY C Z 4), .float .f64 p]) (by simp [results, go_sem, dirX, dirY]) rfl ⟨rfl, rfl⟩
      · obtain rfl : k = 5 := by omega
        obtain rfl : m = 6 := by omega
        clear hjk hj0 hm
        go_wp2_with fail
        refine Calls.mono (HR.out _) ?_
        rintro e w' ⟨rfl, hw⟩
        obtain rfl := hw.symm
        clear hw
        go_wp2_with fail
        exact bodyPost_ret (v := .tuple #[.float .f64 (dirX C Z 5), .float .f64 (dirY C Z 5), .float .f64 p]) (by simp [results, go_sem, dirX, dirY]) rfl ⟨rfl, rfl⟩
      · obtain rfl : k = 6 := by omega
        obtain rfl : m = 7 := by omega
        clear hjk hj0 hm
        go_wp2_with fail
        refine Calls.mono (HR.out _) ?_
        rintro e w' ⟨rfl, hw⟩
        obtain rfl := hw.symm
        clear hw
        go_wp2_with fail
        exact bodyPost_ret (v := .tuple #[.float .f64 (dirX C Z 6), .float .f64 (dirY C Z 6), .float .f64 p]) (by simp [results, go_sem, dirX, dirY]) rfl ⟨rfl, rfl⟩
      · obtain rfl : k = 7 := by omega
        obtain rfl : m = 8 := by omega
        clear hjk hj0 hm
        go_wp2_with fail
        refine Calls.mono (HR.out _) ?_
        rintro e w' ⟨rfl, hw⟩
        obtain rfl := hw.symm
        clear hw
        go_wp2_with fail
        exact bodyPost_ret (v := .tuple #[.float .f64 (dirX C Z 7), .float .f64 (dirY C Z 7), .float .f64 p]) (by simp [results, go_sem, dirX, dirY]) rfl ⟨rfl, rfl⟩
end Go.Proofs.Ytagehemimlakpaa
