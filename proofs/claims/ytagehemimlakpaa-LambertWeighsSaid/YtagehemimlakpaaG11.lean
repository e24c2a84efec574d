/- Package lambert: Weight. The walk of LambertWeighs. A vector that comes in, opened and shut. A light that comes in, opened and shut. -/
import Derived.ProofKit
import Derived.Lib.SmallJoins
import Derived.Test.YtagehemimlakpaaRows
import Derived.Test.YtagehemimlakpaaG9
import Derived.Test.YtagehemimlakpaaG10
import Derived.Test.YtagehemimlakpaaG4
namespace Go.Proofs.Ytagehemimlakpaa
open Go.RowKit Fl

set_option maxRecDepth 100000 in
set_option maxHeartbeats 1000000 in
theorem lwe_any (k0 k1 k2 ox oy oz x y z : Nat) (w : World) : Ret Try.prog 16 #[.agg #[.float .f64 k0, .float .f64 k1, .float .f64 k2], .agg #[.float .f64 ox, .float .f64 oy, .float .f64 oz], .agg #[.float .f64 x, .float .f64 y, .float .f64 z]] w (isP (cond (ford (denL oz x y z) 0 == some .gt) (weV (denL oz x y z) z (evV (upperB oz z) ⟨k0, k1, k2⟩)) ⟨0, 0, 0⟩)) := by
  unfold Ret
  have HP := hid (fun w => lden_any ox oy oz x y z w)
  have HE := hid (fun w => lev_any k0 k1 k2 ox oy oz x y z w)
  obtain ⟨_, _, h3⟩ := den_tests oz x y z
  have hg : (FloatKind.f64.format.order (denL oz x y z) 0 == some .gt) = (ford (denL oz x y z) 0 == some .gt) := rfl
  rw [hg] at h3
  clear hg
  generalize (ford (denL oz x y z) 0 == some .gt) = g at *
  generalize denL oz x y z = p at *
  generalize evV (upperB oz z) ⟨k0, k1, k2⟩ = E at *
  cases g
  · replace h3 : _ = true := h3
    go_enter Try.func16, Try.ntmps16
    go_wp2_with fail
    refine Lp.settleC (fun w' => Lp.Bk w' (w.heap.size) #[.float .f64 k0, .float .f64 k1, .float .f64 k2] 24 ∧ Lp.Bk w' (w.heap.size + 1) #[.float .f64 ox, .float .f64 oy, .float .f64 oz] 26 ∧ Lp.Bk w' (w.heap.size + 1 + 1) #[.float .f64 x, .float .f64 y, .float .f64 z] 26 ∧ Lp.Bk w' (w.heap.size + 1 + 1 + 1) #[.float .f64 0, .float .f64 0, .float .f64 0] 24 ∧ Cl w w') ⟨((((Lp.Bk.al _ _ _).alo _).alo _).alo _), (((Lp.Bk.al1 _ _ _ _).alo _).alo _), ((Lp.Bk.al2 _ _ _ _ _).alo _), (Lp.Bk.al3 _ _ _ _ _ _), ((((Below.refl _ _).alloc (by simp <;> omega) _).alloc (by simp <;> omega) _).alloc (by simp <;> omega) _).alloc (by simp <;> omega) _⟩ ?_
    rintro v1 ⟨BK, BO, BI, BR, HB⟩
    have kK := BK.cell
    have kO := BO.cell
    have kI := BI.cell
    have kR := BR.cell
    have zR := BR.frz
    have nK0 : (w.heap.size = v1.heap.size) = False := eq_false (by have := BK.lt; omega)
    have mK0 : w.heap.size < v1.heap.size := by have := BK.lt; omega
    have nK1 : (w.heap.size = v1.heap.size + 1) = False := eq_false (by have := BK.lt; omega)
    have mK1 : w.heap.size < v1.heap.size + 1 := by have := BK.lt; omega
    have nO0 : (w.heap.size + 1 = v1.heap.size) = False := eq_false (by have := BO.lt; omega)
    have mO0 : w.heap.size + 1 < v1.heap.size := by have := BO.lt; omega
    have nO1 : (w.heap.size = v1.heap.size) = False := eq_false (by have := BO.lt; omega)
    have mO1 : w.heap.size < v1.heap.size := by have := BO.lt; omega
    have nI0 : (w.heap.size + 1 + 1 = v1.heap.size) = False := eq_false (by have := BI.lt; omega)
    have mI0 : w.heap.size + 1 + 1 < v1.heap.size := by have := BI.lt; omega
    have nI1 : (w.heap.size + 1 = v1.heap.size) = False := eq_false (by have := BI.lt; omega)
    have mI1 : w.heap.size + 1 < v1.heap.size := by have := BI.lt; omega
    have nR0 : (w.heap.size + 1 + 1 + 1 = v1.heap.size) = False := eq_false (by have := BR.lt; omega)
    have mR0 : w.heap.size + 1 + 1 + 1 < v1.heap.size := by have := BR.lt; omega
    have nR1 : (w.heap.size + 1 + 1 = v1.heap.size) = False := eq_false (by have := BR.lt; omega)
    have mR1 : w.heap.size + 1 + 1 < v1.heap.size := by have := BR.lt; omega
    refine Calls.mono (HP.out _) ?_
    rintro e v2 ⟨v, rfl, rfl, hm⟩
    clear kK kO kI kR zR nK0 mK0 nK1 mK1 nO0 mO0 nO1 mO1 nI0 mI0 nI1 mI1 nR0 mR0 nR1 mR1
    replace BK := BK.keep hm
    replace BO := BO.keep hm
    replace BI := BI.keep hm
    replace BR := BR.keep hm
    replace HB := HB.call hm
    clear hm
    have kK := BK.cell
    have kO := BO.cell
    have kI := BI.cell
    have kR := BR.cell
    have zR := BR.frz
    have nK0 : (w.heap.size = v2.heap.size) = False := eq_false (by have := BK.lt; omega)
    have mK0 : w.heap.size < v2.heap.size := by have := BK.lt; omega
    have nK1 : (w.heap.size = v2.heap.size + 1) = False := eq_false (by have := BK.lt; omega)
    have mK1 : w.heap.size < v2.heap.size + 1 := by have := BK.lt; omega
    have nO0 : (w.heap.size + 1 = v2.heap.size) = False := eq_false (by have := BO.lt; omega)
    have mO0 : w.heap.size + 1 < v2.heap.size := by have := BO.lt; omega
    have nO1 : (w.heap.size = v2.heap.size) = False := eq_false (by have := BO.lt; omega)
    have mO1 : w.heap.size < v2.heap.size := by have := BO.lt; omega
    have nI0 : (w.heap.size + 1 + 1 = v2.heap.size) = False := eq_false (by have := BI.lt; omega)
    have mI0 : w.heap.size + 1 + 1 < v2.heap.size := by have := BI.lt; omega
    have nI1 : (w.heap.size + 1 = v2.heap.size) = False := eq_false (by have := BI.lt; omega)
    have mI1 : w.heap.size + 1 < v2.heap.size := by have := BI.lt; omega
    have nR0 : (w.heap.size + 1 + 1 + 1 = v2.heap.size) = False := eq_false (by have := BR.lt; omega)
    have mR0 : w.heap.size + 1 + 1 + 1 < v2.heap.size := by have := BR.lt; omega
    have nR1 : (w.heap.size + 1 + 1 = v2.heap.size) = False := eq_false (by have := BR.lt; omega)
    have mR1 : w.heap.size + 1 + 1 < v2.heap.size := by have := BR.lt; omega
    go_wp2_with fail
    refine bodyPost_ret (v := .agg #[.float .f64 0, .float .f64 0, .float .f64 0]) (by simp [results, go_sem, kR]) rfl ⟨_, rfl, ⟨0, 0, 0, rfl, ⟨Sm.refl _, Sm.refl _, Sm.refl _⟩, ⟨wd_none, wd_none, wd_none⟩⟩, ?_⟩
    repeat (refine Below.setCell ?_ (by dsimp only; omega) _)
    exact HB
  · replace h3 : _ = false := h3
    go_enter Try.func16, Try.ntmps16
    go_wp2_with fail
    refine Lp.settleC (fun w' => Lp.Bk w' (w.heap.size) #[.float .f64 k0, .float .f64 k1, .float .f64 k2] 24 ∧ Lp.Bk w' (w.heap.size + 1) #[.float .f64 ox, .float .f64 oy, .float .f64 oz] 26 ∧ Lp.Bk w' (w.heap.size + 1 + 1) #[.float .f64 x, .float .f64 y, .float .f64 z] 26 ∧ Lp.Bk w' (w.heap.size + 1 + 1 + 1) #[.float .f64 0, .float .f64 0, .float .f64 0] 24 ∧ Cl w w') ⟨((((Lp.Bk.al _ _ _).alo _).alo _).alo _), (((Lp.Bk.al1 _ _ _ _).alo _).alo _), ((Lp.Bk.al2 _ _ _ _ _).alo _), (Lp.Bk.al3 _ _ _ _ _ _), ((((Below.refl _ _).alloc (by simp <;> omega) _).alloc (by simp <;> omega) _).alloc (by simp <;> omega) _).alloc (by simp <;> omega) _⟩ ?_
    rintro v1 ⟨BK, BO, BI, BR, HB⟩
    have kK := BK.cell
    have kO := BO.cell
    have kI := BI.cell
    have kR := BR.cell
    have zR := BR.frz
    have nK0 : (w.heap.size = v1.heap.size) = False := eq_false (by have := BK.lt; omega)
    have mK0 : w.heap.size < v1.heap.size := by have := BK.lt; omega
    have nK1 : (w.heap.size = v1.heap.size + 1) = False := eq_false (by have := BK.lt; omega)
    have mK1 : w.heap.size < v1.heap.size + 1 := by have := BK.lt; omega
    have nO0 : (w.heap.size + 1 = v1.heap.size) = False := eq_false (by have := BO.lt; omega)
    have mO0 : w.heap.size + 1 < v1.heap.size := by have := BO.lt; omega
    have nO1 : (w.heap.size = v1.heap.size) = False := eq_false (by have := BO.lt; omega)
    have mO1 : w.heap.size < v1.heap.size := by have := BO.lt; omega
    have nI0 : (w.heap.size + 1 + 1 = v1.heap.size) = False := eq_false (by have := BI.lt; omega)
    have mI0 : w.heap.size + 1 + 1 < v1.heap.size := by have := BI.lt; omega
    have nI1 : (w.heap.size + 1 = v1.heap.size) = False := eq_false (by have := BI.lt; omega)
    have mI1 : w.heap.size + 1 < v1.heap.size := by have := BI.lt; omega
    have nR0 : (w.heap.size + 1 + 1 + 1 = v1.heap.size) = False := eq_false (by have := BR.lt; omega)
    have mR0 : w.heap.size + 1 + 1 + 1 < v1.heap.size := by have := BR.lt; omega
    have nR1 : (w.heap.size + 1 + 1 = v1.heap.size) = False := eq_false (by have := BR.lt; omega)
    have mR1 : w.heap.size + 1 + 1 < v1.heap.size := by have := BR.lt; omega
    refine Calls.mono (HP.out _) ?_
    rintro e v2 ⟨v, rfl, rfl, hm⟩
    clear kK kO kI kR zR nK0 mK0 nK1 mK1 nO0 mO0 nO1 mO1 nI0 mI0 nI1 mI1 nR0 mR0 nR1 mR1
    replace BK := BK.keep hm
    replace BO := BO.keep hm
    replace BI := BI.keep hm
    replace BR := BR.keep hm
    replace HB := HB.call hm
    clear hm
    have kK := BK.cell
    have kO := BO.cell
    have kI := BI.cell
    have kR := BR.cell
    have zR := BR.frz
    have nK0 : (w.heap.size = v2.heap.size) = False := eq_false (by have := BK.lt; omega)
    have mK0 : w.heap.size < v2.heap.size := by have := BK.lt; omega
    have nK1 : (w.heap.size = v2.heap.size + 1) = False := eq_false (by have := BK.lt; omega)
    have mK1 : w.heap.size < v2.heap.size + 1 := by have := BK.lt; omega
    have nO0 : (w.heap.size + 1 = v2.heap.size) = False := eq_false (by have := BO.lt; omega)
    have mO0 : w.heap.size + 1 < v2.heap.size := by have := BO.lt; omega
    have nO1 : (w.heap.size = v2.heap.size) = False := eq_false (by have := BO.lt; omega)
    have mO1 : w.heap.size < v2.heap.size := by have := BO.lt; omega
    have nI0 : (w.heap.size + 1 + 1 = v2.heap.size) = False := eq_false (by have := BI.lt; omega)
    have mI0 : w.heap.size + 1 + 1 < v2.heap.size := by have := BI.lt; omega
    have nI1 : (w.heap.size + 1 = v2.heap.size) = False := eq_false (by have := BI.lt; omega)
    have mI1 : w.heap.size + 1 < v2.heap.size := by have := BI.lt; omega
    have nR0 : (w.heap.size + 1 + 1 + 1 = v2.heap.size) = False := eq_false (by have := BR.lt; omega)
    have mR0 : w.heap.size + 1 + 1 + 1 < v2.heap.size := by have := BR.lt; omega
    have nR1 : (w.heap.size + 1 + 1 = v2.heap.size) = False := eq_false (by have := BR.lt; omega)
    have mR1 : w.heap.size + 1 + 1 < v2.heap.size := by have := BR.lt; omega
    go_wp2_with fail
    have jR : w.heap.size + 1 + 1 + 1 < v2.heap.size := BR.lt
    apply Lw.region _ _ 8 (by kernel_rfl) (by kernel_rfl) (by kernel_rfl) (Below.refl _ _)
    apply Lw.facts
    · intro w1 hw
      exact And.intro (BK.cl hw).cell (And.intro (BO.cl hw).cell (And.intro (BI.cl hw).cell ((BR.cl hw).cell)))
    intro HF
    iterate 3 (
      apply Lw.one ?_ rfl
      · intro w hw
        obtain ⟨k0, k1, k2, k3⟩ := HF.out _ hw
        go_simp
        exact rfl
      intro K hK
      go_simp
      refine hK.out _ ?_
      clear hK K)
    apply Lw.any rfl
    · intro w hw
      go_simp
      exact Lw.ret (HE.out _)
    intro K hK
    rintro v ⟨e0, e1, e2, rfl, he, we⟩
    go_simp
    refine hK.out _ ?_
    clear hK K
    iterate 1 (
      apply Lw.one ?_ rfl
      · intro w hw
        obtain ⟨k0, k1, k2, k3⟩ := HF.out _ hw
        go_simp
        exact rfl
      intro K hK
      go_simp
      refine hK.out _ ?_
      clear hK K)
    apply Lw.any rfl
    · intro w hw
      go_simp
      exact Lw.ret (cos_any _ _ _ _)
    intro K hK
    rintro v rfl
    go_simp
    refine hK.out _ ?_
    clear hK K
    apply Lw.any rfl
    · intro w hw
      go_simp
      exact Lw.ret (rgbscale_c _ he (Sm.refl _))
    intro K hK
    rintro v ⟨s0, s1, s2, rfl, hs, ws⟩
    go_simp
    refine hK.out _ ?_
    clear hK K
    apply Lw.new _ rfl
    · intro w hw
      go_simp
      exact rfl
    intro K hK b2 hb2
    go_simp
    refine hK.out _ _ ?_
    clear hK K
    rotate_left
    exact []
    refine Lw.finE ?_
    intro v3 hm hE
    have BP : Lp.Bk v3 b2 #[.float .f64 0, .float .f64 0, .float .f64 0] 24 := ((hE 7).2 rfl).2
    clear hE
    clear kK kO kI kR zR nK0 mK0 nK1 mK1 nO0 mO0 nO1 mO1 nI0 mI0 nI1 mI1 nR0 mR0 nR1 mR1
    replace BK := BK.keep hm
    replace BO := BO.keep hm
    replace BI := BI.keep hm
    replace BR := BR.keep hm
    replace HB := HB.call hm
    have kK := BK.cell
    have kO := BO.cell
    have kI := BI.cell
    have kR := BR.cell
    have kP := BP.cell
    have zP := BP.frz
    have zR := BR.frz
    have nK0 : (w.heap.size = v3.heap.size) = False := eq_false (by have := BK.lt; omega)
    have mK0 : w.heap.size < v3.heap.size := by have := BK.lt; omega
    have nK1 : (w.heap.size = v3.heap.size + 1) = False := eq_false (by have := BK.lt; omega)
    have mK1 : w.heap.size < v3.heap.size + 1 := by have := BK.lt; omega
    have nO0 : (w.heap.size + 1 = v3.heap.size) = False := eq_false (by have := BO.lt; omega)
    have mO0 : w.heap.size + 1 < v3.heap.size := by have := BO.lt; omega
    have nO1 : (w.heap.size = v3.heap.size) = False := eq_false (by have := BO.lt; omega)
    have mO1 : w.heap.size < v3.heap.size := by have := BO.lt; omega
    have nI0 : (w.heap.size + 1 + 1 = v3.heap.size) = False := eq_false (by have := BI.lt; omega)
    have mI0 : w.heap.size + 1 + 1 < v3.heap.size := by have := BI.lt; omega
    have nI1 : (w.heap.size + 1 = v3.heap.size) = False := eq_false (by have := BI.lt; omega)
    have mI1 : w.heap.size + 1 < v3.heap.size := by have := BI.lt; omega
    have nR0 : (w.heap.size + 1 + 1 + 1 = v3.heap.size) = False := eq_false (by have := BR.lt; omega)
    have mR0 : w.heap.size + 1 + 1 + 1 < v3.heap.size := by have := BR.lt; omega
    have nR1 : (w.heap.size + 1 + 1 = v3.heap.size) = False := eq_false (by have := BR.lt; omega)
    have mR1 : w.heap.size + 1 + 1 < v3.heap.size := by have := BR.lt; omega
    have nP0 : (b2 = v3.heap.size) = False := eq_false (by have := BP.lt; omega)
    have mP0 : b2 < v3.heap.size := by have := BP.lt; omega
    have nP1 : (b2 = v3.heap.size + 1) = False := eq_false (by have := BP.lt; omega)
    have mP1 : b2 < v3.heap.size + 1 := by have := BP.lt; omega
    go_wp2_with fail
    refine upon_div (Sm.refl _) (Sm.refl _) ?_
    intro q nq hq
    go_wp2_with fail
    refine Lp.settleC (fun w' => Lp.Bk w' (w.heap.size) #[.float .f64 k0, .float .f64 k1, .float .f64 k2] 24 ∧ Lp.Bk w' (w.heap.size + 1) #[.float .f64 ox, .float .f64 oy, .float .f64 oz] 26 ∧ Lp.Bk w' (w.heap.size + 1 + 1) #[.float .f64 x, .float .f64 y, .float .f64 z] 26 ∧ Lp.Bk w' (w.heap.size + 1 + 1 + 1) #[.float .f64 0, .float .f64 0, .float .f64 0] 24 ∧ Lp.Bk w' (b2) #[.float .f64 s0, .float .f64 s1, .float .f64 s2] 24 ∧ Cl w w') ⟨(Lp.Bk.dr (by (repeat (refine Lp.Bk.seto ?_ (by dsimp only; omega) _)); exact BK) _), (Lp.Bk.dr (by (repeat (refine Lp.Bk.seto ?_ (by dsimp only; omega) _)); exact BO) _), (Lp.Bk.dr (by (repeat (refine Lp.Bk.seto ?_ (by dsimp only; omega) _)); exact BI) _), (Lp.Bk.dr (by (repeat (refine Lp.Bk.seto ?_ (by dsimp only; omega) _)); exact BR) _), BP.set3.dr _, (below_dr (by (repeat (refine Below.setCell ?_ (by dsimp only; omega) _)); exact HB) _)⟩ ?_
    clear kK kO kI kR kP zP zR nK0 mK0 nK1 mK1 nO0 mO0 nO1 mO1 nI0 mI0 nI1 mI1 nR0 mR0 nR1 mR1 nP0 mP0 nP1 mP1
    clear BK BO BI BR BP HB
    rintro v4 ⟨BK, BO, BI, BR, BP, HB⟩
    have kK := BK.cell
    have kO := BO.cell
    have kI := BI.cell
    have kR := BR.cell
    have kP := BP.cell
    have zR := BR.frz
    have nK0 : (w.heap.size = v4.heap.size) = False := eq_false (by have := BK.lt; omega)
    have mK0 : w.heap.size < v4.heap.size := by have := BK.lt; omega
    have nK1 : (w.heap.size = v4.heap.size + 1) = False := eq_false (by have := BK.lt; omega)
    have mK1 : w.heap.size < v4.heap.size + 1 := by have := BK.lt; omega
    have nO0 : (w.heap.size + 1 = v4.heap.size) = False := eq_false (by have := BO.lt; omega)
    have mO0 : w.heap.size + 1 < v4.heap.size := by have := BO.lt; omega
    have nO1 : (w.heap.size = v4.heap.size) = False := eq_false (by have := BO.lt; omega)
    have mO1 : w.heap.size < v4.heap.size := by have := BO.lt; omega
    have nI0 : (w.heap.size + 1 + 1 = v4.heap.size) = False := eq_false (by have := BI.lt; omega)
    have mI0 : w.heap.size + 1 + 1 < v4.heap.size := by have := BI.lt; omega
    have nI1 : (w.heap.size + 1 = v4.heap.size) = False := eq_false (by have := BI.lt; omega)
    have mI1 : w.heap.size + 1 < v4.heap.size := by have := BI.lt; omega
    have nR0 : (w.heap.size + 1 + 1 + 1 = v4.heap.size) = False := eq_false (by have := BR.lt; omega)
    have mR0 : w.heap.size + 1 + 1 + 1 < v4.heap.size := by have := BR.lt; omega
    have nR1 : (w.heap.size + 1 + 1 = v4.heap.size) = False := eq_false (by have := BR.lt; omega)
    have mR1 : w.heap.size + 1 + 1 < v4.heap.size := by have := BR.lt; omega
    have nP0 : (b2 = v4.heap.size) = False := eq_false (by have := BP.lt; omega)
    have mP0 : b2 < v4.heap.size := by have := BP.lt; omega
    have nP1 : (b2 = v4.heap.size + 1) = False := eq_false (by have := BP.lt; omega)
    have mP1 : b2 < v4.heap.size + 1 := by have := BP.lt; omega
    refine Calls.mono (rgbscale_c _ hs hq.sm) ?_
    rintro e v5 ⟨v, rfl, ⟨t0, t1, t2, rfl, ht, wt⟩, hm⟩
    clear kK kO kI kR kP zR nK0 mK0 nK1 mK1 nO0 mO0 nO1 mO1 nI0 mI0 nI1 mI1 nR0 mR0 nR1 mR1 nP0 mP0 nP1 mP1
    replace BK := BK.keep hm
    replace BO := BO.keep hm
    replace BI := BI.keep hm
    replace BR := BR.keep hm
    replace BP := BP.keep hm
    replace HB := HB.call hm
    clear hm
    have kK := BK.cell
    have kO := BO.cell
    have kI := BI.cell
    have kR := BR.cell
    have kP := BP.cell
    have zR := BR.frz
    have nK0 : (w.heap.size = v5.heap.size) = False := eq_false (by have := BK.lt; omega)
    have mK0 : w.heap.size < v5.heap.size := by have := BK.lt; omega
    have nK1 : (w.heap.size = v5.heap.size + 1) = False := eq_false (by have := BK.lt; omega)
    have mK1 : w.heap.size < v5.heap.size + 1 := by have := BK.lt; omega
    have nO0 : (w.heap.size + 1 = v5.heap.size) = False := eq_false (by have := BO.lt; omega)
    have mO0 : w.heap.size + 1 < v5.heap.size := by have := BO.lt; omega
    have nO1 : (w.heap.size = v5.heap.size) = False := eq_false (by have := BO.lt; omega)
    have mO1 : w.heap.size < v5.heap.size := by have := BO.lt; omega
    have nI0 : (w.heap.size + 1 + 1 = v5.heap.size) = False := eq_false (by have := BI.lt; omega)
    have mI0 : w.heap.size + 1 + 1 < v5.heap.size := by have := BI.lt; omega
    have nI1 : (w.heap.size + 1 = v5.heap.size) = False := eq_false (by have := BI.lt; omega)
    have mI1 : w.heap.size + 1 < v5.heap.size := by have := BI.lt; omega
    have nR0 : (w.heap.size + 1 + 1 + 1 = v5.heap.size) = False := eq_false (by have := BR.lt; omega)
    have mR0 : w.heap.size + 1 + 1 + 1 < v5.heap.size := by have := BR.lt; omega
    have nR1 : (w.heap.size + 1 + 1 = v5.heap.size) = False := eq_false (by have := BR.lt; omega)
    have mR1 : w.heap.size + 1 + 1 < v5.heap.size := by have := BR.lt; omega
    have nP0 : (b2 = v5.heap.size) = False := eq_false (by have := BP.lt; omega)
    have mP0 : b2 < v5.heap.size := by have := BP.lt; omega
    have nP1 : (b2 = v5.heap.size + 1) = False := eq_false (by have := BP.lt; omega)
    have mP1 : b2 < v5.heap.size + 1 := by have := BP.lt; omega
    go_wp2_with fail
    refine bodyPost_ret (v := .agg #[.float .f64 t0, .float .f64 t1, .float .f64 t2]) (by simp [results, go_sem, kR]) rfl ⟨_, rfl, ⟨t0, t1, t2, rfl, ht, wt⟩, ?_⟩
    repeat (refine Below.setCell ?_ (by dsimp only; omega) _)
    exact HB

end Go.Proofs.Ytagehemimlakpaa

namespace Go.Proofs.Ytagehemimlakpaa
open Go.RowKit Fl

set_option maxRecDepth 100000 in
set_option maxHeartbeats 1000000 in
theorem weighs_walk (k0 k1 k2 ox oy oz x y z : Nat) (w : World) : Ret Try.prog 5 #[.agg #[.float .f64 k0, .float .f64 k1, .float .f64 k2], .agg #[.float .f64 ox, .float .f64 oy, .float .f64 oz], .agg #[.float .f64 x, .float .f64 y, .float .f64 z]] w (fun v => v = .bool true) := by
  unfold Ret
  have HW := hid (fun w => lwe_any k0 k1 k2 ox oy oz x y z w)
  have HR := hid (fun w => rden_any ox oy oz x y z w)
  have HV := hid (fun w => rev_any k0 k1 k2 ox oy oz x y z w)
  have hg : (FloatKind.f64.format.order (denL oz x y z) 0 == some .gt) = (ford (denL oz x y z) 0 == some .gt) := rfl
  unfold weV at HW
  generalize (ford (denL oz x y z) 0 == some .gt) = g at *
  generalize denL oz x y z = p at *
  generalize evV (upperB oz z) ⟨k0, k1, k2⟩ = E at *
  cases g
  · have HQ := hid (fun w => HW.out w)
    simp only [cond_false] at HQ
    go_enter Try.func5, Try.ntmps5
    go_wp2_with fail
    refine Lp.settleC (fun w' => Lp.Bk w' (w.heap.size) #[.float .f64 k0, .float .f64 k1, .float .f64 k2] 24 ∧ Lp.Bk w' (w.heap.size + 1) #[.float .f64 ox, .float .f64 oy, .float .f64 oz] 26 ∧ Lp.Bk w' (w.heap.size + 1 + 1) #[.float .f64 x, .float .f64 y, .float .f64 z] 26 ∧ Cl w w') ⟨(((Lp.Bk.al _ _ _).alo _).alo _), ((Lp.Bk.al1 _ _ _ _).alo _), (Lp.Bk.al2 _ _ _ _ _), (((Below.refl _ _).alloc (by simp <;> omega) _).alloc (by simp <;> omega) _).alloc (by simp <;> omega) _⟩ ?_
    rintro v1 ⟨BK, BO, BI, HB⟩
    have kK := BK.cell
    have kO := BO.cell
    have kI := BI.cell
    have nK0 : (w.heap.size = v1.heap.size) = False := eq_false (by have := BK.lt; omega)
    have mK0 : w.heap.size < v1.heap.size := by have := BK.lt; omega
    have nK1 : (w.heap.size = v1.heap.size + 1) = False := eq_false (by have := BK.lt; omega)
    have mK1 : w.heap.size < v1.heap.size + 1 := by have := BK.lt; omega
    have nO0 : (w.heap.size + 1 = v1.heap.size) = False := eq_false (by have := BO.lt; omega)
    have mO0 : w.heap.size + 1 < v1.heap.size := by have := BO.lt; omega
    have nO1 : (w.heap.size = v1.heap.size) = False := eq_false (by have := BO.lt; omega)
    have mO1 : w.heap.size < v1.heap.size := by have := BO.lt; omega
    have nI0 : (w.heap.size + 1 + 1 = v1.heap.size) = False := eq_false (by have := BI.lt; omega)
    have mI0 : w.heap.size + 1 + 1 < v1.heap.size := by have := BI.lt; omega
    have nI1 : (w.heap.size + 1 = v1.heap.size) = False := eq_false (by have := BI.lt; omega)
    have mI1 : w.heap.size + 1 < v1.heap.size := by have := BI.lt; omega
    refine Calls.mono (HQ.out _) ?_
    rintro e v2 ⟨v, rfl, ⟨a0, a1, a2, rfl, ha, wa⟩, hm⟩
    clear kK kO kI nK0 mK0 nK1 mK1 nO0 mO0 nO1 mO1 nI0 mI0 nI1 mI1
    replace BK := BK.keep hm
    replace BO := BO.keep hm
    replace BI := BI.keep hm
    replace HB := HB.call hm
    clear hm
    have kK := BK.cell
    have kO := BO.cell
    have kI := BI.cell
    have nK0 : (w.heap.size = v2.heap.size) = False := eq_false (by have := BK.lt; omega)
    have mK0 : w.heap.size < v2.heap.size := by have := BK.lt; omega
    have nK1 : (w.heap.size = v2.heap.size + 1) = False := eq_false (by have := BK.lt; omega)
    have mK1 : w.heap.size < v2.heap.size + 1 := by have := BK.lt; omega
    have nO0 : (w.heap.size + 1 = v2.heap.size) = False := eq_false (by have := BO.lt; omega)
    have mO0 : w.heap.size + 1 < v2.heap.size := by have := BO.lt; omega
    have nO1 : (w.heap.size = v2.heap.size) = False := eq_false (by have := BO.lt; omega)
    have mO1 : w.heap.size < v2.heap.size := by have := BO.lt; omega
    have nI0 : (w.heap.size + 1 + 1 = v2.heap.size) = False := eq_false (by have := BI.lt; omega)
    have mI0 : w.heap.size + 1 + 1 < v2.heap.size := by have := BI.lt; omega
    have nI1 : (w.heap.size + 1 = v2.heap.size) = False := eq_false (by have := BI.lt; omega)
    have mI1 : w.heap.size + 1 < v2.heap.size := by have := BI.lt; omega
    go_wp2_with fail
    refine Lp.settleC (fun w' => Lp.Bk w' (w.heap.size) #[.float .f64 k0, .float .f64 k1, .float .f64 k2] 24 ∧ Lp.Bk w' (w.heap.size + 1) #[.float .f64 ox, .float .f64 oy, .float .f64 oz] 26 ∧ Lp.Bk w' (w.heap.size + 1 + 1) #[.float .f64 x, .float .f64 y, .float .f64 z] 26 ∧ Lp.Bk w' (v2.heap.size) #[.float .f64 a0, .float .f64 a1, .float .f64 a2] 24 ∧ Cl w w') ⟨(BK).alo _, (BO).alo _, (BI).alo _, Lp.Bk.al _ _ _, (HB).alloc _⟩ ?_
    clear kK kO kI nK0 mK0 nK1 mK1 nO0 mO0 nO1 mO1 nI0 mI0 nI1 mI1
    clear BK BO BI HB
    rintro v3 ⟨BK, BO, BI, BA, HB⟩
    have kK := BK.cell
    have kO := BO.cell
    have kI := BI.cell
    have kA := BA.cell
    have nK0 : (w.heap.size = v3.heap.size) = False := eq_false (by have := BK.lt; omega)
    have mK0 : w.heap.size < v3.heap.size := by have := BK.lt; omega
    have nK1 : (w.heap.size = v3.heap.size + 1) = False := eq_false (by have := BK.lt; omega)
    have mK1 : w.heap.size < v3.heap.size + 1 := by have := BK.lt; omega
    have nO0 : (w.heap.size + 1 = v3.heap.size) = False := eq_false (by have := BO.lt; omega)
    have mO0 : w.heap.size + 1 < v3.heap.size := by have := BO.lt; omega
    have nO1 : (w.heap.size = v3.heap.size) = False := eq_false (by have := BO.lt; omega)
    have mO1 : w.heap.size < v3.heap.size := by have := BO.lt; omega
    have nI0 : (w.heap.size + 1 + 1 = v3.heap.size) = False := eq_false (by have := BI.lt; omega)
    have mI0 : w.heap.size + 1 + 1 < v3.heap.size := by have := BI.lt; omega
    have nI1 : (w.heap.size + 1 = v3.heap.size) = False := eq_false (by have := BI.lt; omega)
    have mI1 : w.heap.size + 1 < v3.heap.size := by have := BI.lt; omega
    have nA0 : (v2.heap.size = v3.heap.size) = False := eq_false (by have := BA.lt; omega)
    have mA0 : v2.heap.size < v3.heap.size := by have := BA.lt; omega
    have nA1 : (v2.heap.size = v3.heap.size + 1) = False := eq_false (by have := BA.lt; omega)
    have mA1 : v2.heap.size < v3.heap.size + 1 := by have := BA.lt; omega
    refine Calls.mono (HR.out _) ?_
    rintro e v4 ⟨v, rfl, rfl, hm⟩
    clear kK kO kI kA nK0 mK0 nK1 mK1 nO0 mO0 nO1 mO1 nI0 mI0 nI1 mI1 nA0 mA0 nA1 mA1
    replace BK := BK.keep hm
    replace BO := BO.keep hm
    replace BI := BI.keep hm
    replace BA := BA.keep hm
    replace HB := HB.call hm
    clear hm
    have kK := BK.cell
    have kO := BO.cell
    have kI := BI.cell
    have kA := BA.cell
    have nK0 : (w.heap.size = v4.heap.size) = False := eq_false (by have := BK.lt; omega)
    have mK0 : w.heap.size < v4.heap.size := by have := BK.lt; omega
    have nK1 : (w.heap.size = v4.heap.size + 1) = False := eq_false (by have := BK.lt; omega)
    have mK1 : w.heap.size < v4.heap.size + 1 := by have := BK.lt; omega
    have nO0 : (w.heap.size + 1 = v4.heap.size) = False := eq_false (by have := BO.lt; omega)
    have mO0 : w.heap.size + 1 < v4.heap.size := by have := BO.lt; omega
    have nO1 : (w.heap.size = v4.heap.size) = False := eq_false (by have := BO.lt; omega)
    have mO1 : w.heap.size < v4.heap.size := by have := BO.lt; omega
    have nI0 : (w.heap.size + 1 + 1 = v4.heap.size) = False := eq_false (by have := BI.lt; omega)
    have mI0 : w.heap.size + 1 + 1 < v4.heap.size := by have := BI.lt; omega
    have nI1 : (w.heap.size + 1 = v4.heap.size) = False := eq_false (by have := BI.lt; omega)
    have mI1 : w.heap.size + 1 < v4.heap.size := by have := BI.lt; omega
    have nA0 : (v2.heap.size = v4.heap.size) = False := eq_false (by have := BA.lt; omega)
    have mA0 : v2.heap.size < v4.heap.size := by have := BA.lt; omega
    have nA1 : (v2.heap.size = v4.heap.size + 1) = False := eq_false (by have := BA.lt; omega)
    have mA1 : v2.heap.size < v4.heap.size + 1 := by have := BA.lt; omega
    go_wp2_with fail
    refine Calls.mono (awake_any _) ?_
    rintro e v5 ⟨v, rfl, rfl, hm⟩
    clear kK kO kI kA nK0 mK0 nK1 mK1 nO0 mO0 nO1 mO1 nI0 mI0 nI1 mI1 nA0 mA0 nA1 mA1
    replace BK := BK.keep hm
    replace BO := BO.keep hm
    replace BI := BI.keep hm
    replace BA := BA.keep hm
    replace HB := HB.call hm
    clear hm
    have kK := BK.cell
    have kO := BO.cell
    have kI := BI.cell
    have kA := BA.cell
    have nK0 : (w.heap.size = v5.heap.size) = False := eq_false (by have := BK.lt; omega)
    have mK0 : w.heap.size < v5.heap.size := by have := BK.lt; omega
    have nK1 : (w.heap.size = v5.heap.size + 1) = False := eq_false (by have := BK.lt; omega)
    have mK1 : w.heap.size < v5.heap.size + 1 := by have := BK.lt; omega
    have nO0 : (w.heap.size + 1 = v5.heap.size) = False := eq_false (by have := BO.lt; omega)
    have mO0 : w.heap.size + 1 < v5.heap.size := by have := BO.lt; omega
    have nO1 : (w.heap.size = v5.heap.size) = False := eq_false (by have := BO.lt; omega)
    have mO1 : w.heap.size < v5.heap.size := by have := BO.lt; omega
    have nI0 : (w.heap.size + 1 + 1 = v5.heap.size) = False := eq_false (by have := BI.lt; omega)
    have mI0 : w.heap.size + 1 + 1 < v5.heap.size := by have := BI.lt; omega
    have nI1 : (w.heap.size + 1 = v5.heap.size) = False := eq_false (by have := BI.lt; omega)
    have mI1 : w.heap.size + 1 < v5.heap.size := by have := BI.lt; omega
    have nA0 : (v2.heap.size = v5.heap.size) = False := eq_false (by have := BA.lt; omega)
    have mA0 : v2.heap.size < v5.heap.size := by have := BA.lt; omega
    have nA1 : (v2.heap.size = v5.heap.size + 1) = False := eq_false (by have := BA.lt; omega)
    have mA1 : v2.heap.size < v5.heap.size + 1 := by have := BA.lt; omega
    go_wp2_with fail
    refine Calls.mono (is5_c ha (S3.refl 0 0 0) _) ?_
    rintro e v6 ⟨v, rfl, rfl, hm⟩
    clear kK kO kI kA nK0 mK0 nK1 mK1 nO0 mO0 nO1 mO1 nI0 mI0 nI1 mI1 nA0 mA0 nA1 mA1
    replace BK := BK.keep hm
    replace BO := BO.keep hm
    replace BI := BI.keep hm
    replace BA := BA.keep hm
    replace HB := HB.call hm
    clear hm
    have kK := BK.cell
    have kO := BO.cell
    have kI := BI.cell
    have kA := BA.cell
    have nK0 : (w.heap.size = v6.heap.size) = False := eq_false (by have := BK.lt; omega)
    have mK0 : w.heap.size < v6.heap.size := by have := BK.lt; omega
    have nK1 : (w.heap.size = v6.heap.size + 1) = False := eq_false (by have := BK.lt; omega)
    have mK1 : w.heap.size < v6.heap.size + 1 := by have := BK.lt; omega
    have nO0 : (w.heap.size + 1 = v6.heap.size) = False := eq_false (by have := BO.lt; omega)
    have mO0 : w.heap.size + 1 < v6.heap.size := by have := BO.lt; omega
    have nO1 : (w.heap.size = v6.heap.size) = False := eq_false (by have := BO.lt; omega)
    have mO1 : w.heap.size < v6.heap.size := by have := BO.lt; omega
    have nI0 : (w.heap.size + 1 + 1 = v6.heap.size) = False := eq_false (by have := BI.lt; omega)
    have mI0 : w.heap.size + 1 + 1 < v6.heap.size := by have := BI.lt; omega
    have nI1 : (w.heap.size + 1 = v6.heap.size) = False := eq_false (by have := BI.lt; omega)
    have mI1 : w.heap.size + 1 < v6.heap.size := by have := BI.lt; omega
    have nA0 : (v2.heap.size = v6.heap.size) = False := eq_false (by have := BA.lt; omega)
    have mA0 : v2.heap.size < v6.heap.size := by have := BA.lt; omega
    have nA1 : (v2.heap.size = v6.heap.size + 1) = False := eq_false (by have := BA.lt; omega)
    have mA1 : v2.heap.size < v6.heap.size + 1 := by have := BA.lt; omega
    go_wp2_with fail
    go_ret
    exact ⟨_, rfl, rfl, HB⟩
  · have HQ := hid (fun w => HW.out w)
    simp only [cond_true] at HQ
    go_enter Try.func5, Try.ntmps5
    go_wp2_with fail
    refine Lp.settleC (fun w' => Lp.Bk w' (w.heap.size) #[.float .f64 k0, .float .f64 k1, .float .f64 k2] 24 ∧ Lp.Bk w' (w.heap.size + 1) #[.float .f64 ox, .float .f64 oy, .float .f64 oz] 26 ∧ Lp.Bk w' (w.heap.size + 1 + 1) #[.float .f64 x, .float .f64 y, .float .f64 z] 26 ∧ Cl w w') ⟨(((Lp.Bk.al _ _ _).alo _).alo _), ((Lp.Bk.al1 _ _ _ _).alo _), (Lp.Bk.al2 _ _ _ _ _), (((Below.refl _ _).alloc (by simp <;> omega) _).alloc (by simp <;> omega) _).alloc (by simp <;> omega) _⟩ ?_
    rintro v1 ⟨BK, BO, BI, HB⟩
    have kK := BK.cell
    have kO := BO.cell
    have kI := BI.cell
    have nK0 : (w.heap.size = v1.heap.size) = False := eq_false (by have := BK.lt; omega)
    have mK0 : w.heap.size < v1.heap.size := by have := BK.lt; omega
    have nK1 : (w.heap.size = v1.heap.size + 1) = False := eq_false (by have := BK.lt; omega)
    have mK1 : w.heap.size < v1.heap.size + 1 := by have := BK.lt; omega
    have nO0 : (w.heap.size + 1 = v1.heap.size) = False := eq_false (by have := BO.lt; omega)
    have mO0 : w.heap.size + 1 < v1.heap.size := by have := BO.lt; omega
    have nO1 : (w.heap.size = v1.heap.size) = False := eq_false (by have := BO.lt; omega)
    have mO1 : w.heap.size < v1.heap.size := by have := BO.lt; omega
    have nI0 : (w.heap.size + 1 + 1 = v1.heap.size) = False := eq_false (by have := BI.lt; omega)
    have mI0 : w.heap.size + 1 + 1 < v1.heap.size := by have := BI.lt; omega
    have nI1 : (w.heap.size + 1 = v1.heap.size) = False := eq_false (by have := BI.lt; omega)
    have mI1 : w.heap.size + 1 < v1.heap.size := by have := BI.lt; omega
    refine Calls.mono (HQ.out _) ?_
    rintro e v2 ⟨v, rfl, ⟨a0, a1, a2, rfl, ha, wa⟩, hm⟩
    clear kK kO kI nK0 mK0 nK1 mK1 nO0 mO0 nO1 mO1 nI0 mI0 nI1 mI1
    replace BK := BK.keep hm
    replace BO := BO.keep hm
    replace BI := BI.keep hm
    replace HB := HB.call hm
    clear hm
    have kK := BK.cell
    have kO := BO.cell
    have kI := BI.cell
    have nK0 : (w.heap.size = v2.heap.size) = False := eq_false (by have := BK.lt; omega)
    have mK0 : w.heap.size < v2.heap.size := by have := BK.lt; omega
    have nK1 : (w.heap.size = v2.heap.size + 1) = False := eq_false (by have := BK.lt; omega)
    have mK1 : w.heap.size < v2.heap.size + 1 := by have := BK.lt; omega
    have nO0 : (w.heap.size + 1 = v2.heap.size) = False := eq_false (by have := BO.lt; omega)
    have mO0 : w.heap.size + 1 < v2.heap.size := by have := BO.lt; omega
    have nO1 : (w.heap.size = v2.heap.size) = False := eq_false (by have := BO.lt; omega)
    have mO1 : w.heap.size < v2.heap.size := by have := BO.lt; omega
    have nI0 : (w.heap.size + 1 + 1 = v2.heap.size) = False := eq_false (by have := BI.lt; omega)
    have mI0 : w.heap.size + 1 + 1 < v2.heap.size := by have := BI.lt; omega
    have nI1 : (w.heap.size + 1 = v2.heap.size) = False := eq_false (by have := BI.lt; omega)
    have mI1 : w.heap.size + 1 < v2.heap.size := by have := BI.lt; omega
    go_wp2_with fail
    refine Lp.settleC (fun w' => Lp.Bk w' (w.heap.size) #[.float .f64 k0, .float .f64 k1, .float .f64 k2] 24 ∧ Lp.Bk w' (w.heap.size + 1) #[.float .f64 ox, .float .f64 oy, .float .f64 oz] 26 ∧ Lp.Bk w' (w.heap.size + 1 + 1) #[.float .f64 x, .float .f64 y, .float .f64 z] 26 ∧ Lp.Bk w' (v2.heap.size) #[.float .f64 a0, .float .f64 a1, .float .f64 a2] 24 ∧ Cl w w') ⟨(BK).alo _, (BO).alo _, (BI).alo _, Lp.Bk.al _ _ _, (HB).alloc _⟩ ?_
    clear kK kO kI nK0 mK0 nK1 mK1 nO0 mO0 nO1 mO1 nI0 mI0 nI1 mI1
    clear BK BO BI HB
    rintro v3 ⟨BK, BO, BI, BA, HB⟩
    have kK := BK.cell
    have kO := BO.cell
    have kI := BI.cell
    have kA := BA.cell
    have nK0 : (w.heap.size = v3.heap.size) = False := eq_false (by have := BK.lt; omega)
    have mK0 : w.heap.size < v3.heap.size := by have := BK.lt; omega
    have nK1 : (w.heap.size = v3.heap.size + 1) = False := eq_false (by have := BK.lt; omega)
    have mK1 : w.heap.size < v3.heap.size + 1 := by have := BK.lt; omega
    have nO0 : (w.heap.size + 1 = v3.heap.size) = False := eq_false (by have := BO.lt; omega)
    have mO0 : w.heap.size + 1 < v3.heap.size := by have := BO.lt; omega
    have nO1 : (w.heap.size = v3.heap.size) = False := eq_false (by have := BO.lt; omega)
    have mO1 : w.heap.size < v3.heap.size := by have := BO.lt; omega
    have nI0 : (w.heap.size + 1 + 1 = v3.heap.size) = False := eq_false (by have := BI.lt; omega)
    have mI0 : w.heap.size + 1 + 1 < v3.heap.size := by have := BI.lt; omega
    have nI1 : (w.heap.size + 1 = v3.heap.size) = False := eq_false (by have := BI.lt; omega)
    have mI1 : w.heap.size + 1 < v3.heap.size := by have := BI.lt; omega
    have nA0 : (v2.heap.size = v3.heap.size) = False := eq_false (by have := BA.lt; omega)
    have mA0 : v2.heap.size < v3.heap.size := by have := BA.lt; omega
    have nA1 : (v2.heap.size = v3.heap.size + 1) = False := eq_false (by have := BA.lt; omega)
    have mA1 : v2.heap.size < v3.heap.size + 1 := by have := BA.lt; omega
    refine Calls.mono (HR.out _) ?_
    rintro e v4 ⟨v, rfl, rfl, hm⟩
    clear kK kO kI kA nK0 mK0 nK1 mK1 nO0 mO0 nO1 mO1 nI0 mI0 nI1 mI1 nA0 mA0 nA1 mA1
    replace BK := BK.keep hm
    replace BO := BO.keep hm
    replace BI := BI.keep hm
    replace BA := BA.keep hm
    replace HB := HB.call hm
    clear hm
    have kK := BK.cell
    have kO := BO.cell
    have kI := BI.cell
    have kA := BA.cell
    have nK0 : (w.heap.size = v4.heap.size) = False := eq_false (by have := BK.lt; omega)
    have mK0 : w.heap.size < v4.heap.size := by have := BK.lt; omega
    have nK1 : (w.heap.size = v4.heap.size + 1) = False := eq_false (by have := BK.lt; omega)
    have mK1 : w.heap.size < v4.heap.size + 1 := by have := BK.lt; omega
    have nO0 : (w.heap.size + 1 = v4.heap.size) = False := eq_false (by have := BO.lt; omega)
    have mO0 : w.heap.size + 1 < v4.heap.size := by have := BO.lt; omega
    have nO1 : (w.heap.size = v4.heap.size) = False := eq_false (by have := BO.lt; omega)
    have mO1 : w.heap.size < v4.heap.size := by have := BO.lt; omega
    have nI0 : (w.heap.size + 1 + 1 = v4.heap.size) = False := eq_false (by have := BI.lt; omega)
    have mI0 : w.heap.size + 1 + 1 < v4.heap.size := by have := BI.lt; omega
    have nI1 : (w.heap.size + 1 = v4.heap.size) = False := eq_false (by have := BI.lt; omega)
    have mI1 : w.heap.size + 1 < v4.heap.size := by have := BI.lt; omega
    have nA0 : (v2.heap.size = v4.heap.size) = False := eq_false (by have := BA.lt; omega)
    have mA0 : v2.heap.size < v4.heap.size := by have := BA.lt; omega
    have nA1 : (v2.heap.size = v4.heap.size + 1) = False := eq_false (by have := BA.lt; omega)
    have mA1 : v2.heap.size < v4.heap.size + 1 := by have := BA.lt; omega
    go_wp2_with fail
    apply Lw.region _ _ 16 (by kernel_rfl) (by kernel_rfl) (by kernel_rfl) (Below.refl _ _)
    apply Lw.facts
    · intro w1 hw
      exact And.intro (BK.cl hw).cell (And.intro (BO.cl hw).cell (And.intro (BI.cl hw).cell ((BA.cl hw).cell)))
    intro HF
    apply Lw.any rfl
    · intro w hw
      go_simp
      exact Lw.ret (awake_any _)
    intro K hK
    rintro v rfl
    go_simp
    refine hK.out _ ?_
    clear hK K
    iterate 5 (
      apply Lw.one ?_ rfl
      · intro w hw
        obtain ⟨k0, k1, k2, k3⟩ := HF.out _ hw
        go_simp
        exact rfl
      intro K hK
      go_simp
      refine hK.out _ ?_
      clear hK K)
    apply Lw.any rfl
    · intro w hw
      go_simp
      exact Lw.ret (HV.out _)
    intro K hK
    rintro v ⟨e0, e1, e2, rfl, he, we⟩
    go_simp
    refine hK.out _ ?_
    clear hK K
    iterate 2 (
      apply Lw.one ?_ rfl
      · intro w hw
        obtain ⟨k0, k1, k2, k3⟩ := HF.out _ hw
        go_simp
        exact rfl
      intro K hK
      go_simp
      refine hK.out _ ?_
      clear hK K)
    apply Lw.any rfl
    · intro w hw
      go_simp
      exact Lw.ret (r5scale_c _ he (Sm.refl _))
    intro K hK
    rintro v ⟨b0, b1, b2, rfl, hb, wb⟩
    go_simp
    refine hK.out _ ?_
    clear hK K
    iterate 1 (
      apply Lw.one ?_ rfl
      · intro w hw
        obtain ⟨k0, k1, k2, k3⟩ := HF.out _ hw
        go_simp
        exact rfl
      intro K hK
      go_simp
      refine hK.out _ ?_
      clear hK K)
    apply Lw.any rfl
    · intro w hw
      go_simp
      exact Lw.div (by first | exact Eqv.sm (by assumption) | exact Sm.refl _) (by first | exact Eqv.sm (by assumption) | exact Sm.refl _)
    intro K hK
    rintro v ⟨rq0, rfl, hq0⟩
    go_simp
    refine hK.out _ ?_
    clear hK K
    apply Lw.any rfl
    · intro w hw
      go_simp
      exact Lw.ret (r5scale_c _ hb hq0.sm)
    intro K hK
    rintro v ⟨c0, c1, c2, rfl, hc, wc⟩
    go_simp
    refine hK.out _ ?_
    clear hK K
    apply Lw.any rfl
    · intro w hw
      go_simp
      exact Lw.ret (is5_c ha hc _)
    intro K hK
    rintro v rfl
    go_simp
    refine hK.out _ ?_
    clear hK K
    iterate 2 (
      apply Lw.one ?_ rfl
      · intro w hw
        obtain ⟨k0, k1, k2, k3⟩ := HF.out _ hw
        go_simp
        exact rfl
      intro K hK
      go_simp
      refine hK.out _ ?_
      clear hK K)
    rotate_left
    exact []
    refine Lw.fin ?_
    intro v5 hm
    clear kK kO kI kA nK0 mK0 nK1 mK1 nO0 mO0 nO1 mO1 nI0 mI0 nI1 mI1 nA0 mA0 nA1 mA1
    replace BK := BK.keep hm
    replace BO := BO.keep hm
    replace BI := BI.keep hm
    replace BA := BA.keep hm
    replace HB := HB.call hm
    clear hm
    have kK := BK.cell
    have kO := BO.cell
    have kI := BI.cell
    have kA := BA.cell
    have nK0 : (w.heap.size = v5.heap.size) = False := eq_false (by have := BK.lt; omega)
    have mK0 : w.heap.size < v5.heap.size := by have := BK.lt; omega
    have nK1 : (w.heap.size = v5.heap.size + 1) = False := eq_false (by have := BK.lt; omega)
    have mK1 : w.heap.size < v5.heap.size + 1 := by have := BK.lt; omega
    have nO0 : (w.heap.size + 1 = v5.heap.size) = False := eq_false (by have := BO.lt; omega)
    have mO0 : w.heap.size + 1 < v5.heap.size := by have := BO.lt; omega
    have nO1 : (w.heap.size = v5.heap.size) = False := eq_false (by have := BO.lt; omega)
    have mO1 : w.heap.size < v5.heap.size := by have := BO.lt; omega
    have nI0 : (w.heap.size + 1 + 1 = v5.heap.size) = False := eq_false (by have := BI.lt; omega)
    have mI0 : w.heap.size + 1 + 1 < v5.heap.size := by have := BI.lt; omega
    have nI1 : (w.heap.size + 1 = v5.heap.size) = False := eq_false (by have := BI.lt; omega)
    have mI1 : w.heap.size + 1 < v5.heap.size := by have := BI.lt; omega
    have nA0 : (v2.heap.size = v5.heap.size) = False := eq_false (by have := BA.lt; omega)
    have mA0 : v2.heap.size < v5.heap.size := by have := BA.lt; omega
    have nA1 : (v2.heap.size = v5.heap.size + 1) = False := eq_false (by have := BA.lt; omega)
    have mA1 : v2.heap.size < v5.heap.size + 1 := by have := BA.lt; omega
    go_wp2_with fail
    go_ret
    exact ⟨_, rfl, rfl, HB⟩

end Go.Proofs.Ytagehemimlakpaa

namespace Go.Proofs.Ytagehemimlakpaa.Fl
section
variable {H : Type} {enc : TypeId × Value → H} {P : Program} {w : World} {base : Nat} {spare : Nat → Bool} {held : Bool} {fuel : Nat} {t : TypeId} {cs : List Value} {x : DataW H × List MemPlace}
theorem trod_float {k : FloatKind} (ht : P.underlying t = some (.float k)) (h : DataW.trod enc P w base spare held fuel t cs = some x) : ∃ n, cs = [.float k n] ∧ x = (.lit (.float k n), []) ∧ (Lit.float k n).wf = true := by
  cases fuel with
  | zero => simp [DataW.trod] at h
  | succ n =>
    unfold DataW.trod at h
    rw [ht] at h
    split at h <;> simp_all
end
end Go.Proofs.Ytagehemimlakpaa.Fl
namespace Go.Proofs.Ytagehemimlakpaa
open Go.ChangeShapes Go.WideShapes Go.ChangeAt Go.RowKit Fl Go.Joins

theorem Try.own : ownKnob Try.prog.godebug = none := by kernel_rfl
theorem Try.laidOut : laidOutB Try.prog = true := by kernel_rfl

theorem Try.cells26 : Try.prog.cellsOf 26 = 3 := by kernel_rfl

set_option maxRecDepth 100000 in
theorem open_vec {H : Type} {enc : TypeId × Value → H} {W : World} {base : Nat} {spare : Nat → Bool} {held : Bool} {r : Reach} {b0 : Nat} {v : Value} {d : DataW H} {ps : List MemPlace} (hv : Value.okWide Try.prog W r b0 26 v) (h : DataW.Trod enc Try.prog W base spare held 26 v d ps) :
    ∃ x y z, v = .agg #[.float .f64 x, .float .f64 y, .float .f64 z] ∧ d = .agg [.lit (.float .f64 x), .lit (.float .f64 y), .lit (.float .f64 z)] ∧ ps = [] ∧
      (Lit.float .f64 x).wf = true ∧ (Lit.float .f64 y).wf = true ∧ (Lit.float .f64 z).wf = true := by
  obtain ⟨c0, c1, c2, y0, y1, y2, m, rfl, rfl, rfl, h0, h1, h2⟩ := open_agg3 Try.underlying26 (by kernel_rfl) Try.cells26 hv h
  obtain ⟨x, e0, rfl, wx⟩ := trod_float Try.underlying22 h0
  obtain ⟨y, e1, rfl, wy⟩ := trod_float Try.underlying22 h1
  obtain ⟨z, e2, rfl, wz⟩ := trod_float Try.underlying22 h2
  simp at e0 e1 e2
  subst e0 e1 e2
  exact ⟨x, y, z, rfl, rfl, rfl, wx, wy, wz⟩

theorem shut_vec {H : Type} {enc : TypeId × Value → H} {W : World} {base : Nat} {spare : Nat → Bool} {held : Bool} {x y z : Nat} (wx : (Lit.float .f64 x).wf = true) (wy : (Lit.float .f64 y).wf = true) (wz : (Lit.float .f64 z).wf = true) :
    DataW.Trod enc Try.prog W base spare held 26 (.agg #[.float .f64 x, .float .f64 y, .float .f64 z]) (.agg [.lit (.float .f64 x), .lit (.float .f64 y), .lit (.float .f64 z)]) [] :=
  shut_agg3 (y0 := (.lit (.float .f64 x), [])) (y1 := (.lit (.float .f64 y), [])) (y2 := (.lit (.float .f64 z), [])) Try.underlying26 (by kernel_rfl) Try.cells26
    ⟨1, by simp [DataW.trod, Try.underlying22, wx]⟩ ⟨1, by simp [DataW.trod, Try.underlying22, wy]⟩ ⟨1, by simp [DataW.trod, Try.underlying22, wz]⟩

end Go.Proofs.Ytagehemimlakpaa

namespace Go.Proofs.Ytagehemimlakpaa
open Go.ChangeShapes Go.WideShapes Go.ChangeAt Go.RowKit Fl Go.Joins

theorem Try.cells24 : Try.prog.cellsOf 24 = 3 := by kernel_rfl

theorem open_rgb {H : Type} {enc : TypeId × Value → H} {W : World} {base : Nat} {spare : Nat → Bool} {held : Bool} {r : Reach} {b0 : Nat} {v : Value} {d : DataW H} {ps : List MemPlace} (hv : Value.okWide Try.prog W r b0 24 v) (h : DataW.Trod enc Try.prog W base spare held 24 v d ps) :
    ∃ x y z, v = .agg #[.float .f64 x, .float .f64 y, .float .f64 z] ∧ d = .agg [.lit (.float .f64 x), .lit (.float .f64 y), .lit (.float .f64 z)] ∧ ps = [] ∧
      (Lit.float .f64 x).wf = true ∧ (Lit.float .f64 y).wf = true ∧ (Lit.float .f64 z).wf = true := by
  obtain ⟨c0, c1, c2, y0, y1, y2, m, rfl, rfl, rfl, h0, h1, h2⟩ := open_agg3 Try.underlying24 (by kernel_rfl) Try.cells24 hv h
  obtain ⟨x, e0, rfl, wx⟩ := trod_float Try.underlying22 h0
  obtain ⟨y, e1, rfl, wy⟩ := trod_float Try.underlying22 h1
  obtain ⟨z, e2, rfl, wz⟩ := trod_float Try.underlying22 h2
  simp at e0 e1 e2
  subst e0 e1 e2
  exact ⟨x, y, z, rfl, rfl, rfl, wx, wy, wz⟩

theorem shut_rgb {H : Type} {enc : TypeId × Value → H} {W : World} {base : Nat} {spare : Nat → Bool} {held : Bool} {x y z : Nat} (wx : (Lit.float .f64 x).wf = true) (wy : (Lit.float .f64 y).wf = true) (wz : (Lit.float .f64 z).wf = true) :
    DataW.Trod enc Try.prog W base spare held 24 (.agg #[.float .f64 x, .float .f64 y, .float .f64 z]) (.agg [.lit (.float .f64 x), .lit (.float .f64 y), .lit (.float .f64 z)]) [] :=
  shut_agg3 (y0 := (.lit (.float .f64 x), [])) (y1 := (.lit (.float .f64 y), [])) (y2 := (.lit (.float .f64 z), [])) Try.underlying24 (by kernel_rfl) Try.cells24
    ⟨1, by simp [DataW.trod, Try.underlying22, wx]⟩ ⟨1, by simp [DataW.trod, Try.underlying22, wy]⟩ ⟨1, by simp [DataW.trod, Try.underlying22, wz]⟩

end Go.Proofs.Ytagehemimlakpaa
