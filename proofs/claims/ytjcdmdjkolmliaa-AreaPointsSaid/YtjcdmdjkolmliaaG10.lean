/- Package area: quotient, Point, Density, Look, Cosine, Solid, Front. -/
import Derived.Test.YtjcdmdjkolmliaaRows
import Derived.Test.YtjcdmdjkolmliaaG8
import Derived.Test.YtjcdmdjkolmliaaG9
namespace Go.Proofs.Ytjcdmdjkolmliaa
open Go.RowKit Fl

theorem wd_nought : Wd 0 := by unfold Wd; omega
set_option maxRecDepth 100000 in
set_option maxHeartbeats 1000000 in
theorem quotient_any {x y X Y : Nat} (hx : Sm x X) (hy : Sm y Y) (w : World) : Ret Try.prog 30 #[.float .f64 x, .float .f64 y] w (isF (quotF X Y)) := by
  unfold Ret
  have HG := hid (gt_w hy (Sm.refl 0))
  have HN := hid (fun r (h : Eqv r (fdiv X Y)) => numB_congr h.sm)
  have HD := hid (And.intro hx hy)
  clear hx hy
  unfold quotF
  generalize gtC Y 0 = p at HG ⊢
  generalize numB (fdiv X Y) = b at HN ⊢
  have HB : Cl w w := Below.refl _ _
  cases p
  · go_enter Try.func30, Try.ntmps30
    go_wp2_with fail
    refine upon_div HD.out.1 HD.out.2 ?_
    intro r n hr
    have hg := HG.out
    have HR := hid hr
    clear hr
    go_wp2_with fail
    go_ret
    exact ⟨_, rfl, ⟨_, rfl, Eqv.refl wd_nought⟩, by repeat (first | exact Below.refl _ _ | refine below_dr ?_ _)⟩
  · cases b
    · go_enter Try.func30, Try.ntmps30
      go_wp2_with fail
      refine upon_div HD.out.1 HD.out.2 ?_
      intro r n hr
      have hg := HG.out
      have HR := hid hr
      clear hr
      go_wp2_with fail
      have HM := hid (fun w => number_any r w)
      rw [HN.out r HR.out] at HM
      refine Calls.mono (HM.out _) ?_
      rintro e w' ⟨rfl, hw⟩
      obtain rfl := hw.symm
      clear hw
      go_wp2_with fail
      go_ret
      exact ⟨_, rfl, ⟨_, rfl, Eqv.refl wd_nought⟩, by repeat (first | exact Below.refl _ _ | refine below_dr ?_ _)⟩
    · go_enter Try.func30, Try.ntmps30
      go_wp2_with fail
      refine upon_div HD.out.1 HD.out.2 ?_
      intro r n hr
      have hg := HG.out
      have HR := hid hr
      clear hr
      go_wp2_with fail
      have HM := hid (fun w => number_any r w)
      rw [HN.out r HR.out] at HM
      refine Calls.mono (HM.out _) ?_
      rintro e w' ⟨rfl, hw⟩
      obtain rfl := hw.symm
      clear hw
      go_wp2_with fail
      go_ret
      exact ⟨_, rfl, ⟨_, rfl, HR.out⟩, by repeat (first | exact Below.refl _ _ | refine below_dr ?_ _)⟩

/-- A point's numbers. -/
def pU (u v : Nat) : Nat := fmul (fsqrt (cleanF u)) (fsub w1 (cleanF v))
def pV (u v : Nat) : Nat := fmul (fsqrt (cleanF u)) (cleanF v)
set_option maxRecDepth 100000 in
set_option maxHeartbeats 1000000 in
theorem point_any {t0 t1 t2 t3 t4 t5 t6 t7 t8 : Nat} {u v : Nat} {A B C : V3} (hA : S3 t0 t1 t2 A) (hB : S3 t3 t4 t5 B) (hC : S3 t6 t7 t8 C) (w : World) : Ret Try.prog 13 #[.agg #[.float .f64 t0, .float .f64 t1, .float .f64 t2, .float .f64 t3, .float .f64 t4, .float .f64 t5, .float .f64 t6, .float .f64 t7, .float .f64 t8], .float .f64 u, .float .f64 v] w (isP ((A.add ((B.sub A).scale (pU u v))).add ((C.sub A).scale (pV u v)))) := by
  unfold Ret
  have HP := hid (fun w => bary_any u v w)
  change Hid (∀ w, Calls Try.prog 28 #[.float .f64 u, .float .f64 v] w fun e w' => e = .returned (.tuple #[.float .f64 (fsub Fl.w1 (fsqrt (cleanF u))), .float .f64 (pU u v), .float .f64 (pV u v)]) ∧ w' = w) at HP
  generalize fsub Fl.w1 (fsqrt (cleanF u)) = q at *
  generalize pU u v = k at *
  generalize pV u v = l at *
  go_enter Try.func13, Try.ntmps13
  go_wp2_with fail
  refine Lp.settleC (fun w' => Lp.Bk w' (w.heap.size) #[.float .f64 t0, .float .f64 t1, .float .f64 t2, .float .f64 t3, .float .f64 t4, .float .f64 t5, .float .f64 t6, .float .f64 t7, .float .f64 t8] 26 ∧ Lp.Bk w' (w.heap.size + 1) #[.float .f64 0, .float .f64 0, .float .f64 0] 24 ∧ Cl w w') ⟨((Lp.Bk.al _ _ _).alo _), (Lp.Bk.al1 _ _ _ _), ((Below.refl _ _).alloc (by simp <;> omega) _).alloc (by simp <;> omega) _⟩ ?_
  rintro v1 ⟨BT, BR, HB⟩
  have kT := BT.cell
  have kR := BR.cell
  have zR := BR.frz
  have nT0 : (w.heap.size = v1.heap.size) = False := eq_false (by have := BT.lt; omega)
  have mT0 : w.heap.size < v1.heap.size := by have := BT.lt; omega
  have nT1 : (w.heap.size = v1.heap.size + 1) = False := eq_false (by have := BT.lt; omega)
  have mT1 : w.heap.size < v1.heap.size + 1 := by have := BT.lt; omega
  have nR0 : (w.heap.size + 1 = v1.heap.size) = False := eq_false (by have := BR.lt; omega)
  have mR0 : w.heap.size + 1 < v1.heap.size := by have := BR.lt; omega
  have nR1 : (w.heap.size = v1.heap.size) = False := eq_false (by have := BR.lt; omega)
  have mR1 : w.heap.size < v1.heap.size := by have := BR.lt; omega
  refine Calls.mono (HP.out _) ?_
  rintro e w' ⟨rfl, hw⟩
  obtain rfl := hw.symm
  clear hw
  go_wp2_with fail
  refine Calls.mono (at_any hA hB hC (Sm.refl _) (Sm.refl _) _) ?_
  rintro e v2 ⟨v, rfl, ⟨x1, y1, z1, rfl, hu, wu⟩, hm⟩
  clear kT kR zR nT0 mT0 nT1 mT1 nR0 mR0 nR1 mR1
  replace BT := BT.keep hm
  replace BR := BR.keep hm
  replace HB := HB.call hm
  clear hm
  have kT := BT.cell
  have kR := BR.cell
  have zR := BR.frz
  have nT0 : (w.heap.size = v2.heap.size) = False := eq_false (by have := BT.lt; omega)
  have mT0 : w.heap.size < v2.heap.size := by have := BT.lt; omega
  have nT1 : (w.heap.size = v2.heap.size + 1) = False := eq_false (by have := BT.lt; omega)
  have mT1 : w.heap.size < v2.heap.size + 1 := by have := BT.lt; omega
  have nR0 : (w.heap.size + 1 = v2.heap.size) = False := eq_false (by have := BR.lt; omega)
  have mR0 : w.heap.size + 1 < v2.heap.size := by have := BR.lt; omega
  have nR1 : (w.heap.size = v2.heap.size) = False := eq_false (by have := BR.lt; omega)
  have mR1 : w.heap.size < v2.heap.size := by have := BR.lt; omega
  go_wp2_with fail
  refine bodyPost_ret (v := .agg #[.float .f64 x1, .float .f64 y1, .float .f64 z1]) (by simp [results, go_sem, kR]) rfl ⟨_, rfl, ⟨x1, y1, z1, rfl, hu, wu⟩, ?_⟩
  repeat (refine Below.setCell ?_ (by dsimp only; omega) _)
  exact HB

set_option maxRecDepth 100000 in
set_option maxHeartbeats 1000000 in
theorem density_any {t0 t1 t2 t3 t4 t5 t6 t7 t8 : Nat} {A B C : V3} (hA : S3 t0 t1 t2 A) (hB : S3 t3 t4 t5 B) (hC : S3 t6 t7 t8 C) (w : World) : Ret Try.prog 14 #[.agg #[.float .f64 t0, .float .f64 t1, .float .f64 t2, .float .f64 t3, .float .f64 t4, .float .f64 t5, .float .f64 t6, .float .f64 t7, .float .f64 t8]] w (isF (densA ((B.sub A).cross (C.sub A)))) := by
  unfold Ret
  go_enter Try.func14, Try.ntmps14
  go_wp2_with fail
  refine Lp.settleC (fun w' => Lp.Bk w' (w.heap.size) #[.float .f64 t0, .float .f64 t1, .float .f64 t2, .float .f64 t3, .float .f64 t4, .float .f64 t5, .float .f64 t6, .float .f64 t7, .float .f64 t8] 26 ∧ Cl w w') ⟨(Lp.Bk.al _ _ _), (Below.refl _ _).alloc (by simp <;> omega) _⟩ ?_
  rintro v1 ⟨BT, HB⟩
  have kT := BT.cell
  have nT0 : (w.heap.size = v1.heap.size) = False := eq_false (by have := BT.lt; omega)
  have mT0 : w.heap.size < v1.heap.size := by have := BT.lt; omega
  have nT1 : (w.heap.size = v1.heap.size + 1) = False := eq_false (by have := BT.lt; omega)
  have mT1 : w.heap.size < v1.heap.size + 1 := by have := BT.lt; omega
  refine Calls.mono (area_any hA hB hC _) ?_
  rintro e v2 ⟨v, rfl, ⟨a, rfl, ha⟩, hm⟩
  clear kT nT0 mT0 nT1 mT1
  replace BT := BT.keep hm
  replace HB := HB.call hm
  clear hm
  have kT := BT.cell
  have nT0 : (w.heap.size = v2.heap.size) = False := eq_false (by have := BT.lt; omega)
  have mT0 : w.heap.size < v2.heap.size := by have := BT.lt; omega
  have nT1 : (w.heap.size = v2.heap.size + 1) = False := eq_false (by have := BT.lt; omega)
  have mT1 : w.heap.size < v2.heap.size + 1 := by have := BT.lt; omega
  go_wp2_with fail
  refine Calls.mono (quotient_any (Sm.refl _) ha.sm _) ?_
  rintro e v3 ⟨v, rfl, ⟨d, rfl, hd⟩, hm⟩
  clear kT nT0 mT0 nT1 mT1
  replace BT := BT.keep hm
  replace HB := HB.call hm
  clear hm
  have kT := BT.cell
  have nT0 : (w.heap.size = v3.heap.size) = False := eq_false (by have := BT.lt; omega)
  have mT0 : w.heap.size < v3.heap.size := by have := BT.lt; omega
  have nT1 : (w.heap.size = v3.heap.size + 1) = False := eq_false (by have := BT.lt; omega)
  have mT1 : w.heap.size < v3.heap.size + 1 := by have := BT.lt; omega
  go_wp2_with fail
  go_ret
  exact ⟨_, rfl, ⟨d, rfl, hd⟩, HB⟩

/-- A look: its direction, its length's square, whether there is a direction. -/
def isL (P : V3) (v : Value) : Prop := ∃ x y z n, v = .tuple #[.agg #[.float .f64 x, .float .f64 y, .float .f64 z], .float .f64 n, .bool P.ok] ∧ (S3 x y z P.unit ∧ W3 x y z) ∧ Eqv n (P.dot P)
theorem len2_c {ax ay az : Nat} {A : V3} (w : World) (ha : S3 ax ay az A) : Ret Try.prog 35 #[.agg #[.float .f64 ax, .float .f64 ay, .float .f64 az]] w (isF (A.dot A)) :=
  (len2_any ax ay az w).mono (isF.sm (dot_w ha ha))

set_option maxRecDepth 100000 in
set_option maxHeartbeats 1000000 in
theorem look_any {f0 f1 f2 g0 g1 g2 : Nat} {F G : V3} (hF : S3 f0 f1 f2 F) (hG : S3 g0 g1 g2 G) (w : World) : Ret Try.prog 16 #[.agg #[.float .f64 f0, .float .f64 f1, .float .f64 f2], .agg #[.float .f64 g0, .float .f64 g1, .float .f64 g2]] w (isL (G.sub F)) := by
  unfold Ret
  go_enter Try.func16, Try.ntmps16
  go_wp2_with fail
  refine Lp.settleC (fun w' => Lp.Bk w' (w.heap.size) #[.float .f64 f0, .float .f64 f1, .float .f64 f2] 24 ∧ Lp.Bk w' (w.heap.size + 1) #[.float .f64 g0, .float .f64 g1, .float .f64 g2] 24 ∧ Lp.Bk w' (w.heap.size + 1 + 1) #[.float .f64 0, .float .f64 0, .float .f64 0] 24 ∧ Cl w w') ⟨(((Lp.Bk.al _ _ _).alo _).alo _), ((Lp.Bk.al1 _ _ _ _).alo _), (Lp.Bk.al2 _ _ _ _ _), (((Below.refl _ _).alloc (by simp <;> omega) _).alloc (by simp <;> omega) _).alloc (by simp <;> omega) _⟩ ?_
  rintro v1 ⟨BF, BG, BR, HB⟩
  have kF := BF.cell
  have kG := BG.cell
  have kR := BR.cell
  have zR := BR.frz
  have nF0 : (w.heap.size = v1.heap.size) = False := eq_false (by have := BF.lt; omega)
  have mF0 : w.heap.size < v1.heap.size := by have := BF.lt; omega
  have nF1 : (w.heap.size = v1.heap.size + 1) = False := eq_false (by have := BF.lt; omega)
  have mF1 : w.heap.size < v1.heap.size + 1 := by have := BF.lt; omega
  have nG0 : (w.heap.size + 1 = v1.heap.size) = False := eq_false (by have := BG.lt; omega)
  have mG0 : w.heap.size + 1 < v1.heap.size := by have := BG.lt; omega
  have nG1 : (w.heap.size = v1.heap.size) = False := eq_false (by have := BG.lt; omega)
  have mG1 : w.heap.size < v1.heap.size := by have := BG.lt; omega
  have nR0 : (w.heap.size + 1 + 1 = v1.heap.size) = False := eq_false (by have := BR.lt; omega)
  have mR0 : w.heap.size + 1 + 1 < v1.heap.size := by have := BR.lt; omega
  have nR1 : (w.heap.size + 1 = v1.heap.size) = False := eq_false (by have := BR.lt; omega)
  have mR1 : w.heap.size + 1 < v1.heap.size := by have := BR.lt; omega
  refine Calls.mono (sub_c _ hG hF) ?_
  rintro e v2 ⟨v, rfl, ⟨x, y, z, rfl, hx, wx⟩, hm⟩
  clear kF kG kR zR nF0 mF0 nF1 mF1 nG0 mG0 nG1 mG1 nR0 mR0 nR1 mR1
  replace BF := BF.keep hm
  replace BG := BG.keep hm
  replace BR := BR.keep hm
  replace HB := HB.call hm
  clear hm
  have kF := BF.cell
  have kG := BG.cell
  have kR := BR.cell
  have zR := BR.frz
  have nF0 : (w.heap.size = v2.heap.size) = False := eq_false (by have := BF.lt; omega)
  have mF0 : w.heap.size < v2.heap.size := by have := BF.lt; omega
  have nF1 : (w.heap.size = v2.heap.size + 1) = False := eq_false (by have := BF.lt; omega)
  have mF1 : w.heap.size < v2.heap.size + 1 := by have := BF.lt; omega
  have nG0 : (w.heap.size + 1 = v2.heap.size) = False := eq_false (by have := BG.lt; omega)
  have mG0 : w.heap.size + 1 < v2.heap.size := by have := BG.lt; omega
  have nG1 : (w.heap.size = v2.heap.size) = False := eq_false (by have := BG.lt; omega)
  have mG1 : w.heap.size < v2.heap.size := by have := BG.lt; omega
  have nR0 : (w.heap.size + 1 + 1 = v2.heap.size) = False := eq_false (by have := BR.lt; omega)
  have mR0 : w.heap.size + 1 + 1 < v2.heap.size := by have := BR.lt; omega
  have nR1 : (w.heap.size + 1 = v2.heap.size) = False := eq_false (by have := BR.lt; omega)
  have mR1 : w.heap.size + 1 < v2.heap.size := by have := BR.lt; omega
  go_wp2_with fail
  have jW : w.heap.size + 1 + 1 < v2.heap.size := BR.lt
  refine Lp.settleC (fun w' => Lp.Bk w' (w.heap.size) #[.float .f64 f0, .float .f64 f1, .float .f64 f2] 24 ∧ Lp.Bk w' (w.heap.size + 1) #[.float .f64 g0, .float .f64 g1, .float .f64 g2] 24 ∧ Lp.Bk w' (w.heap.size + 1 + 1) #[.float .f64 0, .float .f64 0, .float .f64 0] 24 ∧ Lp.Bk w' (v2.heap.size) #[.float .f64 x, .float .f64 y, .float .f64 z] 24 ∧ Cl w w') ⟨(BF).alo _, (BG).alo _, (BR).alo _, Lp.Bk.al _ _ _, (HB).alloc _⟩ ?_
  clear kF kG kR zR nF0 mF0 nF1 mF1 nG0 mG0 nG1 mG1 nR0 mR0 nR1 mR1
  clear BF BG BR HB
  rintro v3 ⟨BF, BG, BR, BW, HB⟩
  have kF := BF.cell
  have kG := BG.cell
  have kR := BR.cell
  have kW := BW.cell
  have zR := BR.frz
  have nF0 : (w.heap.size = v3.heap.size) = False := eq_false (by have := BF.lt; omega)
  have mF0 : w.heap.size < v3.heap.size := by have := BF.lt; omega
  have nF1 : (w.heap.size = v3.heap.size + 1) = False := eq_false (by have := BF.lt; omega)
  have mF1 : w.heap.size < v3.heap.size + 1 := by have := BF.lt; omega
  have nG0 : (w.heap.size + 1 = v3.heap.size) = False := eq_false (by have := BG.lt; omega)
  have mG0 : w.heap.size + 1 < v3.heap.size := by have := BG.lt; omega
  have nG1 : (w.heap.size = v3.heap.size) = False := eq_false (by have := BG.lt; omega)
  have mG1 : w.heap.size < v3.heap.size := by have := BG.lt; omega
  have nR0 : (w.heap.size + 1 + 1 = v3.heap.size) = False := eq_false (by have := BR.lt; omega)
  have mR0 : w.heap.size + 1 + 1 < v3.heap.size := by have := BR.lt; omega
  have nR1 : (w.heap.size + 1 = v3.heap.size) = False := eq_false (by have := BR.lt; omega)
  have mR1 : w.heap.size + 1 < v3.heap.size := by have := BR.lt; omega
  have nW0 : (v2.heap.size = v3.heap.size) = False := eq_false (by have := BW.lt; omega)
  have mW0 : v2.heap.size < v3.heap.size := by have := BW.lt; omega
  have nW1 : (v2.heap.size = v3.heap.size + 1) = False := eq_false (by have := BW.lt; omega)
  have mW1 : v2.heap.size < v3.heap.size + 1 := by have := BW.lt; omega
  refine Calls.mono (unit_c _ hx) ?_
  rintro e v4 ⟨v, rfl, ⟨x1, y1, z1, rfl, hu, wu⟩, hm⟩
  clear kF kG kR kW zR nF0 mF0 nF1 mF1 nG0 mG0 nG1 mG1 nR0 mR0 nR1 mR1 nW0 mW0 nW1 mW1
  replace BF := BF.keep hm
  replace BG := BG.keep hm
  replace BR := BR.keep hm
  replace BW := BW.keep hm
  replace HB := HB.call hm
  clear hm
  have kF := BF.cell
  have kG := BG.cell
  have kR := BR.cell
  have kW := BW.cell
  have zR := BR.frz
  have nF0 : (w.heap.size = v4.heap.size) = False := eq_false (by have := BF.lt; omega)
  have mF0 : w.heap.size < v4.heap.size := by have := BF.lt; omega
  have nF1 : (w.heap.size = v4.heap.size + 1) = False := eq_false (by have := BF.lt; omega)
  have mF1 : w.heap.size < v4.heap.size + 1 := by have := BF.lt; omega
  have nG0 : (w.heap.size + 1 = v4.heap.size) = False := eq_false (by have := BG.lt; omega)
  have mG0 : w.heap.size + 1 < v4.heap.size := by have := BG.lt; omega
  have nG1 : (w.heap.size = v4.heap.size) = False := eq_false (by have := BG.lt; omega)
  have mG1 : w.heap.size < v4.heap.size := by have := BG.lt; omega
  have nR0 : (w.heap.size + 1 + 1 = v4.heap.size) = False := eq_false (by have := BR.lt; omega)
  have mR0 : w.heap.size + 1 + 1 < v4.heap.size := by have := BR.lt; omega
  have nR1 : (w.heap.size + 1 = v4.heap.size) = False := eq_false (by have := BR.lt; omega)
  have mR1 : w.heap.size + 1 < v4.heap.size := by have := BR.lt; omega
  have nW0 : (v2.heap.size = v4.heap.size) = False := eq_false (by have := BW.lt; omega)
  have mW0 : v2.heap.size < v4.heap.size := by have := BW.lt; omega
  have nW1 : (v2.heap.size = v4.heap.size + 1) = False := eq_false (by have := BW.lt; omega)
  have mW1 : v2.heap.size < v4.heap.size + 1 := by have := BW.lt; omega
  go_wp2_with fail
  have jD : w.heap.size + 1 + 1 < v4.heap.size := BR.lt
  refine Lp.settle (fun w' => Lp.Bk w' (w.heap.size) #[.float .f64 f0, .float .f64 f1, .float .f64 f2] 24 ∧ Lp.Bk w' (w.heap.size + 1) #[.float .f64 g0, .float .f64 g1, .float .f64 g2] 24 ∧ Lp.Bk w' (w.heap.size + 1 + 1) #[.float .f64 0, .float .f64 0, .float .f64 0] 24 ∧ Lp.Bk w' (v2.heap.size) #[.float .f64 x, .float .f64 y, .float .f64 z] 24 ∧ Lp.Bk w' (v4.heap.size) #[.float .f64 x1, .float .f64 y1, .float .f64 z1] 24 ∧ Cl w w') ⟨(BF).alo _, (BG).alo _, (BR).alo _, (BW).alo _, Lp.Bk.al _ _ _, (HB).alloc _⟩ ?_
  clear kF kG kR kW zR nF0 mF0 nF1 mF1 nG0 mG0 nG1 mG1 nR0 mR0 nR1 mR1 nW0 mW0 nW1 mW1
  clear BF BG BR BW HB
  rintro v5 ⟨BF, BG, BR, BW, BD, HB⟩
  have kF := BF.cell
  have kG := BG.cell
  have kR := BR.cell
  have kW := BW.cell
  have kD := BD.cell
  have nF0 : (w.heap.size = v5.heap.size) = False := eq_false (by have := BF.lt; omega)
  have mF0 : w.heap.size < v5.heap.size := by have := BF.lt; omega
  have nF1 : (w.heap.size = v5.heap.size + 1) = False := eq_false (by have := BF.lt; omega)
  have mF1 : w.heap.size < v5.heap.size + 1 := by have := BF.lt; omega
  have nG0 : (w.heap.size + 1 = v5.heap.size) = False := eq_false (by have := BG.lt; omega)
  have mG0 : w.heap.size + 1 < v5.heap.size := by have := BG.lt; omega
  have nG1 : (w.heap.size = v5.heap.size) = False := eq_false (by have := BG.lt; omega)
  have mG1 : w.heap.size < v5.heap.size := by have := BG.lt; omega
  have nR0 : (w.heap.size + 1 + 1 = v5.heap.size) = False := eq_false (by have := BR.lt; omega)
  have mR0 : w.heap.size + 1 + 1 < v5.heap.size := by have := BR.lt; omega
  have nR1 : (w.heap.size + 1 = v5.heap.size) = False := eq_false (by have := BR.lt; omega)
  have mR1 : w.heap.size + 1 < v5.heap.size := by have := BR.lt; omega
  have nW0 : (v2.heap.size = v5.heap.size) = False := eq_false (by have := BW.lt; omega)
  have mW0 : v2.heap.size < v5.heap.size := by have := BW.lt; omega
  have nW1 : (v2.heap.size = v5.heap.size + 1) = False := eq_false (by have := BW.lt; omega)
  have mW1 : v2.heap.size < v5.heap.size + 1 := by have := BW.lt; omega
  have nD0 : (v4.heap.size = v5.heap.size) = False := eq_false (by have := BD.lt; omega)
  have mD0 : v4.heap.size < v5.heap.size := by have := BD.lt; omega
  have nD1 : (v4.heap.size = v5.heap.size + 1) = False := eq_false (by have := BD.lt; omega)
  have mD1 : v4.heap.size < v5.heap.size + 1 := by have := BD.lt; omega
  clear kF kG kR kW kD nF0 mF0 nF1 mF1 nG0 mG0 nG1 mG1 nR0 mR0 nR1 mR1 nW0 mW0 nW1 mW1 nD0 mD0 nD1 mD1
  apply Ls.region (w.heap.size + 1 + 1) (.cells #[.float .f64 x1, .float .f64 y1, .float .f64 z1] 24) _ 6 (by kernel_rfl) (by kernel_rfl) (by kernel_rfl)
  apply Lw.facts
  · intro w1 hw
    exact And.intro (hw.keep BW (by omega)).cell ((hw.keep BD (by omega)).cell)
  intro HF
  iterate 2 (
    apply Lw.one ?_ rfl
    · intro w hw
      obtain ⟨k0, k1⟩ := HF.out _ hw
      go_simp
      exact rfl
    intro K hK
    go_simp
    refine hK.out _ ?_
    clear hK K)
  apply Lw.any rfl
  · intro w hw
    go_simp
    exact Ls.ret (len2_c _ hx)
  intro K hK
  rintro v ⟨n, rfl, hn⟩
  go_simp
  refine hK.out _ ?_
  clear hK K
  iterate 1 (
    apply Lw.one ?_ rfl
    · intro w hw
      obtain ⟨k0, k1⟩ := HF.out _ hw
      go_simp
      exact rfl
    intro K hK
    go_simp
    refine hK.out _ ?_
    clear hK K)
  apply Lw.anyW (V := fun _ w' => w'.heap[w.heap.size + 1 + 1]? = some (.cells #[.float .f64 x1, .float .f64 y1, .float .f64 z1] 24)) rfl
  · exact fun _ => Ls.along_new
  · intro w hw _
    rcases hw.old BR with h | h
    all_goals
      have kR_ := h.cell
      have zR_ := h.frz
      go_simp
      exact ⟨(Lp.Bk.set (Lp.Bk.set (Lp.Bk.set h 0 _) 1 _) 2 _), Ls.stored rfl rfl rfl (by simp [World.setCell]) (fun k hk => (Ls.same_set hk (Ls.same_set hk (Ls.same_set hk rfl)))) (Lp.Bk.set (Lp.Bk.set (Lp.Bk.set h 0 _) 1 _) 2 _)⟩
  intro K hK v _
  go_simp
  refine hK.out _ _ ?_
  clear hK K
  iterate 1 (
    apply Lw.one ?_ rfl
    · intro w hw
      obtain ⟨k0, k1⟩ := HF.out _ hw
      go_simp
      exact rfl
    intro K hK
    go_simp
    refine hK.out _ ?_
    clear hK K)
  rotate_left
  exact []
  refine Lw.finE ?_
  intro v6 hm hE
  have BR_ : Lp.Bk v6 (w.heap.size + 1 + 1) #[.float .f64 x1, .float .f64 y1, .float .f64 z1] 24 := (hE 4).2 rfl
  have HB_ := hm.cl HB (by omega)
  replace BW := hm.keep BW (by omega)
  replace BD := hm.keep BD (by omega)
  clear hm hE HB BR
  have HB := HB_
  have BR := BR_
  clear HB_ BR_
  have kR := BR.cell
  have kW := BW.cell
  have kD := BD.cell
  have nR0 : (w.heap.size + 1 + 1 = v6.heap.size) = False := eq_false (by have := BR.lt; omega)
  have mR0 : w.heap.size + 1 + 1 < v6.heap.size := by have := BR.lt; omega
  have nR1 : (w.heap.size + 1 = v6.heap.size) = False := eq_false (by have := BR.lt; omega)
  have mR1 : w.heap.size + 1 < v6.heap.size := by have := BR.lt; omega
  have nW0 : (v2.heap.size = v6.heap.size) = False := eq_false (by have := BW.lt; omega)
  have mW0 : v2.heap.size < v6.heap.size := by have := BW.lt; omega
  have nW1 : (v2.heap.size = v6.heap.size + 1) = False := eq_false (by have := BW.lt; omega)
  have mW1 : v2.heap.size < v6.heap.size + 1 := by have := BW.lt; omega
  have nD0 : (v4.heap.size = v6.heap.size) = False := eq_false (by have := BD.lt; omega)
  have mD0 : v4.heap.size < v6.heap.size := by have := BD.lt; omega
  have nD1 : (v4.heap.size = v6.heap.size + 1) = False := eq_false (by have := BD.lt; omega)
  have mD1 : v4.heap.size < v6.heap.size + 1 := by have := BD.lt; omega
  go_wp2_with fail
  refine bodyPost_ret (v := .tuple #[.agg #[.float .f64 x1, .float .f64 y1, .float .f64 z1], .float .f64 n, .bool (G.sub F).ok]) (by simp [results, go_sem, kR]) rfl ⟨_, rfl, ⟨x1, y1, z1, n, rfl, ⟨hu, wu⟩, hn⟩, ?_⟩
  repeat (refine Below.setCell ?_ (by dsimp only; omega) _)
  exact HB

set_option maxRecDepth 100000 in
set_option maxHeartbeats 1000000 in
theorem cosine_any {t0 t1 t2 t3 t4 t5 t6 t7 t8 f0 f1 f2 g0 g1 g2 : Nat} {A B C F G : V3} (hA : S3 t0 t1 t2 A) (hB : S3 t3 t4 t5 B) (hC : S3 t6 t7 t8 C) (hF : S3 f0 f1 f2 F) (hG : S3 g0 g1 g2 G) (w : World) : Ret Try.prog 21 #[.agg #[.float .f64 t0, .float .f64 t1, .float .f64 t2, .float .f64 t3, .float .f64 t4, .float .f64 t5, .float .f64 t6, .float .f64 t7, .float .f64 t8], .agg #[.float .f64 f0, .float .f64 f1, .float .f64 f2], .agg #[.float .f64 g0, .float .f64 g1, .float .f64 g2]] w (isF (cosA (G.sub F) ((B.sub A).cross (C.sub A)))) := by
  unfold Ret
  go_enter Try.func21, Try.ntmps21
  go_wp2_with fail
  refine Lp.settleC (fun w' => Lp.Bk w' (w.heap.size) #[.float .f64 t0, .float .f64 t1, .float .f64 t2, .float .f64 t3, .float .f64 t4, .float .f64 t5, .float .f64 t6, .float .f64 t7, .float .f64 t8] 26 ∧ Lp.Bk w' (w.heap.size + 1) #[.float .f64 f0, .float .f64 f1, .float .f64 f2] 24 ∧ Lp.Bk w' (w.heap.size + 1 + 1) #[.float .f64 g0, .float .f64 g1, .float .f64 g2] 24 ∧ Cl w w') ⟨(((Lp.Bk.al _ _ _).alo _).alo _), ((Lp.Bk.al1 _ _ _ _).alo _), (Lp.Bk.al2 _ _ _ _ _), (((Below.refl _ _).alloc (by simp <;> omega) _).alloc (by simp <;> omega) _).alloc (by simp <;> omega) _⟩ ?_
  rintro v1 ⟨BT, BF, BG, HB⟩
  have kT := BT.cell
  have kF := BF.cell
  have kG := BG.cell
  have nT0 : (w.heap.size = v1.heap.size) = False := eq_false (by have := BT.lt; omega)
  have mT0 : w.heap.size < v1.heap.size := by have := BT.lt; omega
  have nT1 : (w.heap.size = v1.heap.size + 1) = False := eq_false (by have := BT.lt; omega)
  have mT1 : w.heap.size < v1.heap.size + 1 := by have := BT.lt; omega
  have nF0 : (w.heap.size + 1 = v1.heap.size) = False := eq_false (by have := BF.lt; omega)
  have mF0 : w.heap.size + 1 < v1.heap.size := by have := BF.lt; omega
  have nF1 : (w.heap.size = v1.heap.size) = False := eq_false (by have := BF.lt; omega)
  have mF1 : w.heap.size < v1.heap.size := by have := BF.lt; omega
  have nG0 : (w.heap.size + 1 + 1 = v1.heap.size) = False := eq_false (by have := BG.lt; omega)
  have mG0 : w.heap.size + 1 + 1 < v1.heap.size := by have := BG.lt; omega
  have nG1 : (w.heap.size + 1 = v1.heap.size) = False := eq_false (by have := BG.lt; omega)
  have mG1 : w.heap.size + 1 < v1.heap.size := by have := BG.lt; omega
  refine Calls.mono (look_any hF hG _) ?_
  rintro e v2 ⟨v, rfl, ⟨x, y, z, n, rfl, ⟨hx, wx⟩, hn⟩, hm⟩
  clear kT kF kG nT0 mT0 nT1 mT1 nF0 mF0 nF1 mF1 nG0 mG0 nG1 mG1
  replace BT := BT.keep hm
  replace BF := BF.keep hm
  replace BG := BG.keep hm
  replace HB := HB.call hm
  clear hm
  have kT := BT.cell
  have kF := BF.cell
  have kG := BG.cell
  have nT0 : (w.heap.size = v2.heap.size) = False := eq_false (by have := BT.lt; omega)
  have mT0 : w.heap.size < v2.heap.size := by have := BT.lt; omega
  have nT1 : (w.heap.size = v2.heap.size + 1) = False := eq_false (by have := BT.lt; omega)
  have mT1 : w.heap.size < v2.heap.size + 1 := by have := BT.lt; omega
  have nF0 : (w.heap.size + 1 = v2.heap.size) = False := eq_false (by have := BF.lt; omega)
  have mF0 : w.heap.size + 1 < v2.heap.size := by have := BF.lt; omega
  have nF1 : (w.heap.size = v2.heap.size) = False := eq_false (by have := BF.lt; omega)
  have mF1 : w.heap.size < v2.heap.size := by have := BF.lt; omega
  have nG0 : (w.heap.size + 1 + 1 = v2.heap.size) = False := eq_false (by have := BG.lt; omega)
  have mG0 : w.heap.size + 1 + 1 < v2.heap.size := by have := BG.lt; omega
  have nG1 : (w.heap.size + 1 = v2.heap.size) = False := eq_false (by have := BG.lt; omega)
  have mG1 : w.heap.size + 1 < v2.heap.size := by have := BG.lt; omega
  go_wp2_with fail
  refine Lp.settleC (fun w' => Lp.Bk w' (w.heap.size) #[.float .f64 t0, .float .f64 t1, .float .f64 t2, .float .f64 t3, .float .f64 t4, .float .f64 t5, .float .f64 t6, .float .f64 t7, .float .f64 t8] 26 ∧ Lp.Bk w' (w.heap.size + 1) #[.float .f64 f0, .float .f64 f1, .float .f64 f2] 24 ∧ Lp.Bk w' (w.heap.size + 1 + 1) #[.float .f64 g0, .float .f64 g1, .float .f64 g2] 24 ∧ Lp.Bk w' (v2.heap.size) #[.float .f64 x, .float .f64 y, .float .f64 z] 24 ∧ Cl w w') ⟨(BT).alo _, (BF).alo _, (BG).alo _, Lp.Bk.al _ _ _, (HB).alloc _⟩ ?_
  clear kT kF kG nT0 mT0 nT1 mT1 nF0 mF0 nF1 mF1 nG0 mG0 nG1 mG1
  clear BT BF BG HB
  rintro v3 ⟨BT, BF, BG, BD, HB⟩
  have kT := BT.cell
  have kF := BF.cell
  have kG := BG.cell
  have kD := BD.cell
  have nT0 : (w.heap.size = v3.heap.size) = False := eq_false (by have := BT.lt; omega)
  have mT0 : w.heap.size < v3.heap.size := by have := BT.lt; omega
  have nT1 : (w.heap.size = v3.heap.size + 1) = False := eq_false (by have := BT.lt; omega)
  have mT1 : w.heap.size < v3.heap.size + 1 := by have := BT.lt; omega
  have nF0 : (w.heap.size + 1 = v3.heap.size) = False := eq_false (by have := BF.lt; omega)
  have mF0 : w.heap.size + 1 < v3.heap.size := by have := BF.lt; omega
  have nF1 : (w.heap.size = v3.heap.size) = False := eq_false (by have := BF.lt; omega)
  have mF1 : w.heap.size < v3.heap.size := by have := BF.lt; omega
  have nG0 : (w.heap.size + 1 + 1 = v3.heap.size) = False := eq_false (by have := BG.lt; omega)
  have mG0 : w.heap.size + 1 + 1 < v3.heap.size := by have := BG.lt; omega
  have nG1 : (w.heap.size + 1 = v3.heap.size) = False := eq_false (by have := BG.lt; omega)
  have mG1 : w.heap.size + 1 < v3.heap.size := by have := BG.lt; omega
  have nD0 : (v2.heap.size = v3.heap.size) = False := eq_false (by have := BD.lt; omega)
  have mD0 : v2.heap.size < v3.heap.size := by have := BD.lt; omega
  have nD1 : (v2.heap.size = v3.heap.size + 1) = False := eq_false (by have := BD.lt; omega)
  have mD1 : v2.heap.size < v3.heap.size + 1 := by have := BD.lt; omega
  refine Calls.mono (normal_any hA hB hC _) ?_
  rintro e v4 ⟨v, rfl, ⟨x1, y1, z1, rfl, hu, wu⟩, hm⟩
  clear kT kF kG kD nT0 mT0 nT1 mT1 nF0 mF0 nF1 mF1 nG0 mG0 nG1 mG1 nD0 mD0 nD1 mD1
  replace BT := BT.keep hm
  replace BF := BF.keep hm
  replace BG := BG.keep hm
  replace BD := BD.keep hm
  replace HB := HB.call hm
  clear hm
  have kT := BT.cell
  have kF := BF.cell
  have kG := BG.cell
  have kD := BD.cell
  have nT0 : (w.heap.size = v4.heap.size) = False := eq_false (by have := BT.lt; omega)
  have mT0 : w.heap.size < v4.heap.size := by have := BT.lt; omega
  have nT1 : (w.heap.size = v4.heap.size + 1) = False := eq_false (by have := BT.lt; omega)
  have mT1 : w.heap.size < v4.heap.size + 1 := by have := BT.lt; omega
  have nF0 : (w.heap.size + 1 = v4.heap.size) = False := eq_false (by have := BF.lt; omega)
  have mF0 : w.heap.size + 1 < v4.heap.size := by have := BF.lt; omega
  have nF1 : (w.heap.size = v4.heap.size) = False := eq_false (by have := BF.lt; omega)
  have mF1 : w.heap.size < v4.heap.size := by have := BF.lt; omega
  have nG0 : (w.heap.size + 1 + 1 = v4.heap.size) = False := eq_false (by have := BG.lt; omega)
  have mG0 : w.heap.size + 1 + 1 < v4.heap.size := by have := BG.lt; omega
  have nG1 : (w.heap.size + 1 = v4.heap.size) = False := eq_false (by have := BG.lt; omega)
  have mG1 : w.heap.size + 1 < v4.heap.size := by have := BG.lt; omega
  have nD0 : (v2.heap.size = v4.heap.size) = False := eq_false (by have := BD.lt; omega)
  have mD0 : v2.heap.size < v4.heap.size := by have := BD.lt; omega
  have nD1 : (v2.heap.size = v4.heap.size + 1) = False := eq_false (by have := BD.lt; omega)
  have mD1 : v2.heap.size < v4.heap.size + 1 := by have := BD.lt; omega
  go_wp2_with fail
  refine Lp.settleC (fun w' => Lp.Bk w' (w.heap.size) #[.float .f64 t0, .float .f64 t1, .float .f64 t2, .float .f64 t3, .float .f64 t4, .float .f64 t5, .float .f64 t6, .float .f64 t7, .float .f64 t8] 26 ∧ Lp.Bk w' (w.heap.size + 1) #[.float .f64 f0, .float .f64 f1, .float .f64 f2] 24 ∧ Lp.Bk w' (w.heap.size + 1 + 1) #[.float .f64 g0, .float .f64 g1, .float .f64 g2] 24 ∧ Lp.Bk w' (v2.heap.size) #[.float .f64 x, .float .f64 y, .float .f64 z] 24 ∧ Lp.Bk w' (v4.heap.size) #[.float .f64 x1, .float .f64 y1, .float .f64 z1] 24 ∧ Cl w w') ⟨(BT).alo _, (BF).alo _, (BG).alo _, (BD).alo _, Lp.Bk.al _ _ _, (HB).alloc _⟩ ?_
  clear kT kF kG kD nT0 mT0 nT1 mT1 nF0 mF0 nF1 mF1 nG0 mG0 nG1 mG1 nD0 mD0 nD1 mD1
  clear BT BF BG BD HB
  rintro v5 ⟨BT, BF, BG, BD, BN, HB⟩
  have kT := BT.cell
  have kF := BF.cell
  have kG := BG.cell
  have kD := BD.cell
  have kN := BN.cell
  have nT0 : (w.heap.size = v5.heap.size) = False := eq_false (by have := BT.lt; omega)
  have mT0 : w.heap.size < v5.heap.size := by have := BT.lt; omega
  have nT1 : (w.heap.size = v5.heap.size + 1) = False := eq_false (by have := BT.lt; omega)
  have mT1 : w.heap.size < v5.heap.size + 1 := by have := BT.lt; omega
  have nF0 : (w.heap.size + 1 = v5.heap.size) = False := eq_false (by have := BF.lt; omega)
  have mF0 : w.heap.size + 1 < v5.heap.size := by have := BF.lt; omega
  have nF1 : (w.heap.size = v5.heap.size) = False := eq_false (by have := BF.lt; omega)
  have mF1 : w.heap.size < v5.heap.size := by have := BF.lt; omega
  have nG0 : (w.heap.size + 1 + 1 = v5.heap.size) = False := eq_false (by have := BG.lt; omega)
  have mG0 : w.heap.size + 1 + 1 < v5.heap.size := by have := BG.lt; omega
  have nG1 : (w.heap.size + 1 = v5.heap.size) = False := eq_false (by have := BG.lt; omega)
  have mG1 : w.heap.size + 1 < v5.heap.size := by have := BG.lt; omega
  have nD0 : (v2.heap.size = v5.heap.size) = False := eq_false (by have := BD.lt; omega)
  have mD0 : v2.heap.size < v5.heap.size := by have := BD.lt; omega
  have nD1 : (v2.heap.size = v5.heap.size + 1) = False := eq_false (by have := BD.lt; omega)
  have mD1 : v2.heap.size < v5.heap.size + 1 := by have := BD.lt; omega
  have nN0 : (v4.heap.size = v5.heap.size) = False := eq_false (by have := BN.lt; omega)
  have mN0 : v4.heap.size < v5.heap.size := by have := BN.lt; omega
  have nN1 : (v4.heap.size = v5.heap.size + 1) = False := eq_false (by have := BN.lt; omega)
  have mN1 : v4.heap.size < v5.heap.size + 1 := by have := BN.lt; omega
  refine Calls.mono (dot_c _ hx hu) ?_
  rintro e v6 ⟨v, rfl, ⟨d, rfl, hd⟩, hm⟩
  clear kT kF kG kD kN nT0 mT0 nT1 mT1 nF0 mF0 nF1 mF1 nG0 mG0 nG1 mG1 nD0 mD0 nD1 mD1 nN0 mN0 nN1 mN1
  replace BT := BT.keep hm
  replace BF := BF.keep hm
  replace BG := BG.keep hm
  replace BD := BD.keep hm
  replace BN := BN.keep hm
  replace HB := HB.call hm
  clear hm
  have kT := BT.cell
  have kF := BF.cell
  have kG := BG.cell
  have kD := BD.cell
  have kN := BN.cell
  have nT0 : (w.heap.size = v6.heap.size) = False := eq_false (by have := BT.lt; omega)
  have mT0 : w.heap.size < v6.heap.size := by have := BT.lt; omega
  have nT1 : (w.heap.size = v6.heap.size + 1) = False := eq_false (by have := BT.lt; omega)
  have mT1 : w.heap.size < v6.heap.size + 1 := by have := BT.lt; omega
  have nF0 : (w.heap.size + 1 = v6.heap.size) = False := eq_false (by have := BF.lt; omega)
  have mF0 : w.heap.size + 1 < v6.heap.size := by have := BF.lt; omega
  have nF1 : (w.heap.size = v6.heap.size) = False := eq_false (by have := BF.lt; omega)
  have mF1 : w.heap.size < v6.heap.size := by have := BF.lt; omega
  have nG0 : (w.heap.size + 1 + 1 = v6.heap.size) = False := eq_false (by have := BG.lt; omega)
  have mG0 : w.heap.size + 1 + 1 < v6.heap.size := by have := BG.lt; omega
  have nG1 : (w.heap.size + 1 = v6.heap.size) = False := eq_false (by have := BG.lt; omega)
  have mG1 : w.heap.size + 1 < v6.heap.size := by have := BG.lt; omega
  have nD0 : (v2.heap.size = v6.heap.size) = False := eq_false (by have := BD.lt; omega)
  have mD0 : v2.heap.size < v6.heap.size := by have := BD.lt; omega
  have nD1 : (v2.heap.size = v6.heap.size + 1) = False := eq_false (by have := BD.lt; omega)
  have mD1 : v2.heap.size < v6.heap.size + 1 := by have := BD.lt; omega
  have nN0 : (v4.heap.size = v6.heap.size) = False := eq_false (by have := BN.lt; omega)
  have mN0 : v4.heap.size < v6.heap.size := by have := BN.lt; omega
  have nN1 : (v4.heap.size = v6.heap.size + 1) = False := eq_false (by have := BN.lt; omega)
  have mN1 : v4.heap.size < v6.heap.size + 1 := by have := BN.lt; omega
  go_wp2_with fail
  refine upon_sub (Sm.refl _) hd.sm ?_
  intro c m hc
  go_wp2_with fail
  go_ret
  exact ⟨_, rfl, ⟨c, rfl, hc⟩, below_dr HB m⟩

set_option maxRecDepth 100000 in
set_option maxHeartbeats 1000000 in
theorem solid_any {t0 t1 t2 t3 t4 t5 t6 t7 t8 f0 f1 f2 g0 g1 g2 : Nat} {A B C F G : V3} (hA : S3 t0 t1 t2 A) (hB : S3 t3 t4 t5 B) (hC : S3 t6 t7 t8 C) (hF : S3 f0 f1 f2 F) (hG : S3 g0 g1 g2 G) (w : World) : Ret Try.prog 20 #[.agg #[.float .f64 t0, .float .f64 t1, .float .f64 t2, .float .f64 t3, .float .f64 t4, .float .f64 t5, .float .f64 t6, .float .f64 t7, .float .f64 t8], .agg #[.float .f64 f0, .float .f64 f1, .float .f64 f2], .agg #[.float .f64 g0, .float .f64 g1, .float .f64 g2]] w (isF (solA (G.sub F) ((B.sub A).cross (C.sub A)))) := by
  unfold Ret
  go_enter Try.func20, Try.ntmps20
  go_wp2_with fail
  refine Lp.settleC (fun w' => Lp.Bk w' (w.heap.size) #[.float .f64 t0, .float .f64 t1, .float .f64 t2, .float .f64 t3, .float .f64 t4, .float .f64 t5, .float .f64 t6, .float .f64 t7, .float .f64 t8] 26 ∧ Lp.Bk w' (w.heap.size + 1) #[.float .f64 f0, .float .f64 f1, .float .f64 f2] 24 ∧ Lp.Bk w' (w.heap.size + 1 + 1) #[.float .f64 g0, .float .f64 g1, .float .f64 g2] 24 ∧ Cl w w') ⟨(((Lp.Bk.al _ _ _).alo _).alo _), ((Lp.Bk.al1 _ _ _ _).alo _), (Lp.Bk.al2 _ _ _ _ _), (((Below.refl _ _).alloc (by simp <;> omega) _).alloc (by simp <;> omega) _).alloc (by simp <;> omega) _⟩ ?_
  rintro v1 ⟨BT, BF, BG, HB⟩
  have kT := BT.cell
  have kF := BF.cell
  have kG := BG.cell
  have nT0 : (w.heap.size = v1.heap.size) = False := eq_false (by have := BT.lt; omega)
  have mT0 : w.heap.size < v1.heap.size := by have := BT.lt; omega
  have nT1 : (w.heap.size = v1.heap.size + 1) = False := eq_false (by have := BT.lt; omega)
  have mT1 : w.heap.size < v1.heap.size + 1 := by have := BT.lt; omega
  have nF0 : (w.heap.size + 1 = v1.heap.size) = False := eq_false (by have := BF.lt; omega)
  have mF0 : w.heap.size + 1 < v1.heap.size := by have := BF.lt; omega
  have nF1 : (w.heap.size = v1.heap.size) = False := eq_false (by have := BF.lt; omega)
  have mF1 : w.heap.size < v1.heap.size := by have := BF.lt; omega
  have nG0 : (w.heap.size + 1 + 1 = v1.heap.size) = False := eq_false (by have := BG.lt; omega)
  have mG0 : w.heap.size + 1 + 1 < v1.heap.size := by have := BG.lt; omega
  have nG1 : (w.heap.size + 1 = v1.heap.size) = False := eq_false (by have := BG.lt; omega)
  have mG1 : w.heap.size + 1 < v1.heap.size := by have := BG.lt; omega
  refine Calls.mono (look_any hF hG _) ?_
  rintro e v2 ⟨v, rfl, ⟨x, y, z, n, rfl, ⟨hx, wx⟩, hn⟩, hm⟩
  clear kT kF kG nT0 mT0 nT1 mT1 nF0 mF0 nF1 mF1 nG0 mG0 nG1 mG1
  replace BT := BT.keep hm
  replace BF := BF.keep hm
  replace BG := BG.keep hm
  replace HB := HB.call hm
  clear hm
  have kT := BT.cell
  have kF := BF.cell
  have kG := BG.cell
  have nT0 : (w.heap.size = v2.heap.size) = False := eq_false (by have := BT.lt; omega)
  have mT0 : w.heap.size < v2.heap.size := by have := BT.lt; omega
  have nT1 : (w.heap.size = v2.heap.size + 1) = False := eq_false (by have := BT.lt; omega)
  have mT1 : w.heap.size < v2.heap.size + 1 := by have := BT.lt; omega
  have nF0 : (w.heap.size + 1 = v2.heap.size) = False := eq_false (by have := BF.lt; omega)
  have mF0 : w.heap.size + 1 < v2.heap.size := by have := BF.lt; omega
  have nF1 : (w.heap.size = v2.heap.size) = False := eq_false (by have := BF.lt; omega)
  have mF1 : w.heap.size < v2.heap.size := by have := BF.lt; omega
  have nG0 : (w.heap.size + 1 + 1 = v2.heap.size) = False := eq_false (by have := BG.lt; omega)
  have mG0 : w.heap.size + 1 + 1 < v2.heap.size := by have := BG.lt; omega
  have nG1 : (w.heap.size + 1 = v2.heap.size) = False := eq_false (by have := BG.lt; omega)
  have mG1 : w.heap.size + 1 < v2.heap.size := by have := BG.lt; omega
  go_wp2_with fail
  refine Lp.settle (fun w' => Lp.Bk w' (w.heap.size) #[.float .f64 t0, .float .f64 t1, .float .f64 t2, .float .f64 t3, .float .f64 t4, .float .f64 t5, .float .f64 t6, .float .f64 t7, .float .f64 t8] 26 ∧ Lp.Bk w' (w.heap.size + 1) #[.float .f64 f0, .float .f64 f1, .float .f64 f2] 24 ∧ Lp.Bk w' (w.heap.size + 1 + 1) #[.float .f64 g0, .float .f64 g1, .float .f64 g2] 24 ∧ Lp.Bk w' (v2.heap.size) #[.float .f64 x, .float .f64 y, .float .f64 z] 24 ∧ Cl w w') ⟨(BT).alo _, (BF).alo _, (BG).alo _, Lp.Bk.al _ _ _, (HB).alloc _⟩ ?_
  clear kT kF kG nT0 mT0 nT1 mT1 nF0 mF0 nF1 mF1 nG0 mG0 nG1 mG1
  clear BT BF BG HB
  rintro v3 ⟨BT, BF, BG, BD, HB⟩
  have kT := BT.cell
  have kF := BF.cell
  have kG := BG.cell
  have kD := BD.cell
  have nT0 : (w.heap.size = v3.heap.size) = False := eq_false (by have := BT.lt; omega)
  have mT0 : w.heap.size < v3.heap.size := by have := BT.lt; omega
  have nT1 : (w.heap.size = v3.heap.size + 1) = False := eq_false (by have := BT.lt; omega)
  have mT1 : w.heap.size < v3.heap.size + 1 := by have := BT.lt; omega
  have nF0 : (w.heap.size + 1 = v3.heap.size) = False := eq_false (by have := BF.lt; omega)
  have mF0 : w.heap.size + 1 < v3.heap.size := by have := BF.lt; omega
  have nF1 : (w.heap.size = v3.heap.size) = False := eq_false (by have := BF.lt; omega)
  have mF1 : w.heap.size < v3.heap.size := by have := BF.lt; omega
  have nG0 : (w.heap.size + 1 + 1 = v3.heap.size) = False := eq_false (by have := BG.lt; omega)
  have mG0 : w.heap.size + 1 + 1 < v3.heap.size := by have := BG.lt; omega
  have nG1 : (w.heap.size + 1 = v3.heap.size) = False := eq_false (by have := BG.lt; omega)
  have mG1 : w.heap.size + 1 < v3.heap.size := by have := BG.lt; omega
  have nD0 : (v2.heap.size = v3.heap.size) = False := eq_false (by have := BD.lt; omega)
  have mD0 : v2.heap.size < v3.heap.size := by have := BD.lt; omega
  have nD1 : (v2.heap.size = v3.heap.size + 1) = False := eq_false (by have := BD.lt; omega)
  have mD1 : v2.heap.size < v3.heap.size + 1 := by have := BD.lt; omega
  apply Lp.wp_region_loose _ _ 10 (by kernel_rfl) (by kernel_rfl) (by kernel_rfl) (Below.refl _ _)
  apply Lp.facts
  · intro w1 hw
    exact And.intro (BT.cl hw).cell (And.intro (BF.cl hw).cell (And.intro (BG.cl hw).cell ((BD.cl hw).cell)))
  intro HF
  iterate 1 (
    apply Lp.one ?_ rfl
    · intro w hw
      obtain ⟨k0, k1, k2, k3⟩ := HF.out _ hw
      go_simp
      exact rfl
    intro K hK
    go_simp
    refine hK.out _ ?_
    clear hK K)
  apply Lp.any rfl
  · intro w hw
    go_simp
    exact Lp.ret (density_any hA hB hC _)
  intro K hK
  rintro v ⟨d, rfl, hd⟩
  go_simp
  refine hK.out _ ?_
  clear hK K
  iterate 1 (
    apply Lp.one ?_ rfl
    · intro w hw
      obtain ⟨k0, k1, k2, k3⟩ := HF.out _ hw
      go_simp
      exact rfl
    intro K hK
    go_simp
    refine hK.out _ ?_
    clear hK K)
  apply Lp.any rfl
  · intro w hw
    go_simp
    exact Lp.mul (by first | exact Eqv.sm (by assumption) | exact Sm.refl _) (by first | exact Eqv.sm (by assumption) | exact Sm.refl _)
  intro K hK
  rintro v ⟨rq0, rfl, hq0⟩
  go_simp
  refine hK.out _ ?_
  clear hK K
  iterate 3 (
    apply Lp.one ?_ rfl
    · intro w hw
      obtain ⟨k0, k1, k2, k3⟩ := HF.out _ hw
      go_simp
      exact rfl
    intro K hK
    go_simp
    refine hK.out _ ?_
    clear hK K)
  apply Lp.any rfl
  · intro w hw
    go_simp
    exact Lp.ret (cosine_any hA hB hC hF hG _)
  intro K hK
  rintro v ⟨c, rfl, hc⟩
  go_simp
  refine hK.out _ ?_
  clear hK K
  apply Lp.any rfl
  · intro w hw
    go_simp
    exact Lp.ret (quotient_any hq0.sm hc.sm _)
  intro K hK
  rintro v ⟨s, rfl, hs⟩
  go_simp
  refine hK.out _ ?_
  clear hK K
  iterate 1 (
    apply Lp.one ?_ rfl
    · intro w hw
      obtain ⟨k0, k1, k2, k3⟩ := HF.out _ hw
      go_simp
      exact rfl
    intro K hK
    go_simp
    refine hK.out _ ?_
    clear hK K)
  rotate_left
  exact []
  intro v4 hm
  clear kT kF kG kD nT0 mT0 nT1 mT1 nF0 mF0 nF1 mF1 nG0 mG0 nG1 mG1 nD0 mD0 nD1 mD1
  replace BT := BT.keep hm
  replace BF := BF.keep hm
  replace BG := BG.keep hm
  replace BD := BD.keep hm
  replace HB := HB.call hm
  clear hm
  have kT := BT.cell
  have kF := BF.cell
  have kG := BG.cell
  have kD := BD.cell
  have nT0 : (w.heap.size = v4.heap.size) = False := eq_false (by have := BT.lt; omega)
  have mT0 : w.heap.size < v4.heap.size := by have := BT.lt; omega
  have nT1 : (w.heap.size = v4.heap.size + 1) = False := eq_false (by have := BT.lt; omega)
  have mT1 : w.heap.size < v4.heap.size + 1 := by have := BT.lt; omega
  have nF0 : (w.heap.size + 1 = v4.heap.size) = False := eq_false (by have := BF.lt; omega)
  have mF0 : w.heap.size + 1 < v4.heap.size := by have := BF.lt; omega
  have nF1 : (w.heap.size = v4.heap.size) = False := eq_false (by have := BF.lt; omega)
  have mF1 : w.heap.size < v4.heap.size := by have := BF.lt; omega
  have nG0 : (w.heap.size + 1 + 1 = v4.heap.size) = False := eq_false (by have := BG.lt; omega)
  have mG0 : w.heap.size + 1 + 1 < v4.heap.size := by have := BG.lt; omega
  have nG1 : (w.heap.size + 1 = v4.heap.size) = False := eq_false (by have := BG.lt; omega)
  have mG1 : w.heap.size + 1 < v4.heap.size := by have := BG.lt; omega
  have nD0 : (v2.heap.size = v4.heap.size) = False := eq_false (by have := BD.lt; omega)
  have mD0 : v2.heap.size < v4.heap.size := by have := BD.lt; omega
  have nD1 : (v2.heap.size = v4.heap.size + 1) = False := eq_false (by have := BD.lt; omega)
  have mD1 : v2.heap.size < v4.heap.size + 1 := by have := BD.lt; omega
  go_wp2_with fail
  go_ret
  exact ⟨_, rfl, ⟨s, rfl, hs⟩, HB⟩

set_option maxRecDepth 100000 in
set_option maxHeartbeats 1000000 in
theorem front_any {t0 t1 t2 t3 t4 t5 t6 t7 t8 f0 f1 f2 : Nat} {A B C F : V3} (hA : S3 t0 t1 t2 A) (hB : S3 t3 t4 t5 B) (hC : S3 t6 t7 t8 C) (hF : S3 f0 f1 f2 F) (w : World) : Ret Try.prog 26 #[.agg #[.float .f64 t0, .float .f64 t1, .float .f64 t2, .float .f64 t3, .float .f64 t4, .float .f64 t5, .float .f64 t6, .float .f64 t7, .float .f64 t8], .agg #[.float .f64 f0, .float .f64 f1, .float .f64 f2]] w (fun v => v = .bool (gtC (((B.sub A).cross (C.sub A)).unit.dot (F.sub A)) 0)) := by
  unfold Ret
  go_enter Try.func26, Try.ntmps26
  go_wp2_with fail
  refine Lp.settleC (fun w' => Lp.Bk w' (w.heap.size) #[.float .f64 t0, .float .f64 t1, .float .f64 t2, .float .f64 t3, .float .f64 t4, .float .f64 t5, .float .f64 t6, .float .f64 t7, .float .f64 t8] 26 ∧ Lp.Bk w' (w.heap.size + 1) #[.float .f64 f0, .float .f64 f1, .float .f64 f2] 24 ∧ Cl w w') ⟨((Lp.Bk.al _ _ _).alo _), (Lp.Bk.al1 _ _ _ _), ((Below.refl _ _).alloc (by simp <;> omega) _).alloc (by simp <;> omega) _⟩ ?_
  rintro v1 ⟨BT, BF, HB⟩
  have kT := BT.cell
  have kF := BF.cell
  have nT0 : (w.heap.size = v1.heap.size) = False := eq_false (by have := BT.lt; omega)
  have mT0 : w.heap.size < v1.heap.size := by have := BT.lt; omega
  have nT1 : (w.heap.size = v1.heap.size + 1) = False := eq_false (by have := BT.lt; omega)
  have mT1 : w.heap.size < v1.heap.size + 1 := by have := BT.lt; omega
  have nF0 : (w.heap.size + 1 = v1.heap.size) = False := eq_false (by have := BF.lt; omega)
  have mF0 : w.heap.size + 1 < v1.heap.size := by have := BF.lt; omega
  have nF1 : (w.heap.size = v1.heap.size) = False := eq_false (by have := BF.lt; omega)
  have mF1 : w.heap.size < v1.heap.size := by have := BF.lt; omega
  refine Calls.mono (normal_any hA hB hC _) ?_
  rintro e v2 ⟨v, rfl, ⟨x1, y1, z1, rfl, hu, wu⟩, hm⟩
  clear kT kF nT0 mT0 nT1 mT1 nF0 mF0 nF1 mF1
  replace BT := BT.keep hm
  replace BF := BF.keep hm
  replace HB := HB.call hm
  clear hm
  have kT := BT.cell
  have kF := BF.cell
  have nT0 : (w.heap.size = v2.heap.size) = False := eq_false (by have := BT.lt; omega)
  have mT0 : w.heap.size < v2.heap.size := by have := BT.lt; omega
  have nT1 : (w.heap.size = v2.heap.size + 1) = False := eq_false (by have := BT.lt; omega)
  have mT1 : w.heap.size < v2.heap.size + 1 := by have := BT.lt; omega
  have nF0 : (w.heap.size + 1 = v2.heap.size) = False := eq_false (by have := BF.lt; omega)
  have mF0 : w.heap.size + 1 < v2.heap.size := by have := BF.lt; omega
  have nF1 : (w.heap.size = v2.heap.size) = False := eq_false (by have := BF.lt; omega)
  have mF1 : w.heap.size < v2.heap.size := by have := BF.lt; omega
  go_wp2_with fail
  refine Lp.settle (fun w' => Lp.Bk w' (w.heap.size) #[.float .f64 t0, .float .f64 t1, .float .f64 t2, .float .f64 t3, .float .f64 t4, .float .f64 t5, .float .f64 t6, .float .f64 t7, .float .f64 t8] 26 ∧ Lp.Bk w' (w.heap.size + 1) #[.float .f64 f0, .float .f64 f1, .float .f64 f2] 24 ∧ Lp.Bk w' (v2.heap.size) #[.float .f64 x1, .float .f64 y1, .float .f64 z1] 24 ∧ Cl w w') ⟨(BT).alo _, (BF).alo _, Lp.Bk.al _ _ _, (HB).alloc _⟩ ?_
  clear kT kF nT0 mT0 nT1 mT1 nF0 mF0 nF1 mF1
  clear BT BF HB
  rintro v3 ⟨BT, BF, BN, HB⟩
  have kT := BT.cell
  have kF := BF.cell
  have kN := BN.cell
  have nT0 : (w.heap.size = v3.heap.size) = False := eq_false (by have := BT.lt; omega)
  have mT0 : w.heap.size < v3.heap.size := by have := BT.lt; omega
  have nT1 : (w.heap.size = v3.heap.size + 1) = False := eq_false (by have := BT.lt; omega)
  have mT1 : w.heap.size < v3.heap.size + 1 := by have := BT.lt; omega
  have nF0 : (w.heap.size + 1 = v3.heap.size) = False := eq_false (by have := BF.lt; omega)
  have mF0 : w.heap.size + 1 < v3.heap.size := by have := BF.lt; omega
  have nF1 : (w.heap.size = v3.heap.size) = False := eq_false (by have := BF.lt; omega)
  have mF1 : w.heap.size < v3.heap.size := by have := BF.lt; omega
  have nN0 : (v2.heap.size = v3.heap.size) = False := eq_false (by have := BN.lt; omega)
  have mN0 : v2.heap.size < v3.heap.size := by have := BN.lt; omega
  have nN1 : (v2.heap.size = v3.heap.size + 1) = False := eq_false (by have := BN.lt; omega)
  have mN1 : v2.heap.size < v3.heap.size + 1 := by have := BN.lt; omega
  apply Lp.wp_region_loose _ _ 8 (by kernel_rfl) (by kernel_rfl) (by kernel_rfl) (Below.refl _ _)
  apply Lp.facts
  · intro w1 hw
    exact And.intro (BT.cl hw).cell (And.intro (BF.cl hw).cell ((BN.cl hw).cell))
  intro HF
  iterate 4 (
    apply Lp.one ?_ rfl
    · intro w hw
      obtain ⟨k0, k1, k2⟩ := HF.out _ hw
      go_simp
      exact rfl
    intro K hK
    go_simp
    refine hK.out _ ?_
    clear hK K)
  apply Lp.any rfl
  · intro w hw
    go_simp
    exact Lp.ret (sub_c _ hF hA)
  intro K hK
  rintro v ⟨x, y, z, rfl, hx, wx⟩
  go_simp
  refine hK.out _ ?_
  clear hK K
  apply Lp.any rfl
  · intro w hw
    go_simp
    exact Lp.ret (dot_c _ hu hx)
  intro K hK
  rintro v ⟨d, rfl, hd⟩
  go_simp
  refine hK.out _ ?_
  clear hK K
  iterate 2 (
    apply Lp.one ?_ rfl
    · intro w hw
      obtain ⟨k0, k1, k2⟩ := HF.out _ hw
      go_simp
      exact rfl
    intro K hK
    go_simp
    refine hK.out _ ?_
    clear hK K)
  rotate_left
  exact []
  intro v4 hm
  clear kT kF kN nT0 mT0 nT1 mT1 nF0 mF0 nF1 mF1 nN0 mN0 nN1 mN1
  replace BT := BT.keep hm
  replace BF := BF.keep hm
  replace BN := BN.keep hm
  replace HB := HB.call hm
  clear hm
  have kT := BT.cell
  have kF := BF.cell
  have kN := BN.cell
  have nT0 : (w.heap.size = v4.heap.size) = False := eq_false (by have := BT.lt; omega)
  have mT0 : w.heap.size < v4.heap.size := by have := BT.lt; omega
  have nT1 : (w.heap.size = v4.heap.size + 1) = False := eq_false (by have := BT.lt; omega)
  have mT1 : w.heap.size < v4.heap.size + 1 := by have := BT.lt; omega
  have nF0 : (w.heap.size + 1 = v4.heap.size) = False := eq_false (by have := BF.lt; omega)
  have mF0 : w.heap.size + 1 < v4.heap.size := by have := BF.lt; omega
  have nF1 : (w.heap.size = v4.heap.size) = False := eq_false (by have := BF.lt; omega)
  have mF1 : w.heap.size < v4.heap.size := by have := BF.lt; omega
  have nN0 : (v2.heap.size = v4.heap.size) = False := eq_false (by have := BN.lt; omega)
  have mN0 : v2.heap.size < v4.heap.size := by have := BN.lt; omega
  have nN1 : (v2.heap.size = v4.heap.size + 1) = False := eq_false (by have := BN.lt; omega)
  have mN1 : v2.heap.size < v4.heap.size + 1 := by have := BN.lt; omega
  have hg := gt_w hd.sm (Sm.refl 0)
  go_wp2_with fail
  go_ret
  exact ⟨_, rfl, congrArg Value.bool hg, HB⟩

end Go.Proofs.Ytjcdmdjkolmliaa
