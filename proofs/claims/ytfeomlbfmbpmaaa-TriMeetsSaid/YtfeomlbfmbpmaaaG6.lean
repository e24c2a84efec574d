/- Package tri: cut, inside, miss. -/
import Derived.Test.YtfeomlbfmbpmaaaRows
import Derived.Test.YtfeomlbfmbpmaaaG4
import Derived.Test.YtfeomlbfmbpmaaaG5
namespace Go.Proofs.Ytfeomlbfmbpmaaa
open Go.RowKit Fl

/-- Where a ray cuts a triangle's plane. -/
def detF (A B C D : V3) : Nat := (B.sub A).dot (D.cross (C.sub A))
def cutT (A B C O D : V3) : Nat := fmul ((C.sub A).dot ((O.sub A).cross (B.sub A))) (fdiv 4607182418800017408 (detF A B C D))
def cutU (A B C O D : V3) : Nat := fmul ((O.sub A).dot (D.cross (C.sub A))) (fdiv 4607182418800017408 (detF A B C D))
def cutV (A B C O D : V3) : Nat := fmul (D.dot ((O.sub A).cross (B.sub A))) (fdiv 4607182418800017408 (detF A B C D))
def isHit (T U V : Nat) (v : Value) : Prop := ∃ t u z, v = .agg #[.int .i64 0, .float .f64 t, .float .f64 u, .float .f64 z] ∧ S3 t u z ⟨T, U, V⟩ ∧ W3 t u z
set_option maxRecDepth 100000 in
set_option maxHeartbeats 1000000 in
theorem cut_any {t0 t1 t2 t3 t4 t5 t6 t7 t8 r0 r1 r2 r3 r4 r5 : Nat} {A B C O D : V3} (hA : S3 t0 t1 t2 A) (hB : S3 t3 t4 t5 B) (hC : S3 t6 t7 t8 C) (hO : S3 r0 r1 r2 O) (hD : S3 r3 r4 r5 D) (w : World) : Ret Try.prog 46 #[.agg #[.float .f64 t0, .float .f64 t1, .float .f64 t2, .float .f64 t3, .float .f64 t4, .float .f64 t5, .float .f64 t6, .float .f64 t7, .float .f64 t8], .agg #[.float .f64 r0, .float .f64 r1, .float .f64 r2, .float .f64 r3, .float .f64 r4, .float .f64 r5]] w (isHit (cutT A B C O D) (cutU A B C O D) (cutV A B C O D)) := by
  unfold Ret
  go_enter Try.func46, Try.ntmps46
  go_wp2_with fail
  refine Lp.settleC (fun w' => Lp.Bk w' (w.heap.size) #[.float .f64 t0, .float .f64 t1, .float .f64 t2, .float .f64 t3, .float .f64 t4, .float .f64 t5, .float .f64 t6, .float .f64 t7, .float .f64 t8] 26 ∧ Lp.Bk w' (w.heap.size + 1) #[.float .f64 r0, .float .f64 r1, .float .f64 r2, .float .f64 r3, .float .f64 r4, .float .f64 r5] 28 ∧ Lp.Bk w' (w.heap.size + 1 + 1) #[.int .i64 0, .float .f64 0, .float .f64 0, .float .f64 0] 30 ∧ Cl w w') ⟨(((Lp.Bk.al _ _ _).alo _).alo _), ((Lp.Bk.al1 _ _ _ _).alo _), (Lp.Bk.al2 _ _ _ _ _), (((Below.refl _ _).alloc (by simp <;> omega) _).alloc (by simp <;> omega) _).alloc (by simp <;> omega) _⟩ ?_
  rintro v1 ⟨BT, BY, BR, HB⟩
  have kT := BT.cell
  have kY := BY.cell
  have kR := BR.cell
  have zR := BR.frz
  have nT0 : (w.heap.size = v1.heap.size) = False := eq_false (by have := BT.lt; omega)
  have mT0 : w.heap.size < v1.heap.size := by have := BT.lt; omega
  have nT1 : (w.heap.size = v1.heap.size + 1) = False := eq_false (by have := BT.lt; omega)
  have mT1 : w.heap.size < v1.heap.size + 1 := by have := BT.lt; omega
  have nY0 : (w.heap.size + 1 = v1.heap.size) = False := eq_false (by have := BY.lt; omega)
  have mY0 : w.heap.size + 1 < v1.heap.size := by have := BY.lt; omega
  have nY1 : (w.heap.size = v1.heap.size) = False := eq_false (by have := BY.lt; omega)
  have mY1 : w.heap.size < v1.heap.size := by have := BY.lt; omega
  have nR0 : (w.heap.size + 1 + 1 = v1.heap.size) = False := eq_false (by have := BR.lt; omega)
  have mR0 : w.heap.size + 1 + 1 < v1.heap.size := by have := BR.lt; omega
  have nR1 : (w.heap.size + 1 = v1.heap.size) = False := eq_false (by have := BR.lt; omega)
  have mR1 : w.heap.size + 1 < v1.heap.size := by have := BR.lt; omega
  refine Calls.mono (edges_any hA hB hC _) ?_
  rintro e v2 ⟨v, rfl, ⟨x, y, z, p, q, r, rfl, ⟨hx, wx⟩, hp, wp⟩, hm⟩
  clear kT kY kR zR nT0 mT0 nT1 mT1 nY0 mY0 nY1 mY1 nR0 mR0 nR1 mR1
  replace BT := BT.keep hm
  replace BY := BY.keep hm
  replace BR := BR.keep hm
  replace HB := HB.call hm
  clear hm
  have kT := BT.cell
  have kY := BY.cell
  have kR := BR.cell
  have zR := BR.frz
  have nT0 : (w.heap.size = v2.heap.size) = False := eq_false (by have := BT.lt; omega)
  have mT0 : w.heap.size < v2.heap.size := by have := BT.lt; omega
  have nT1 : (w.heap.size = v2.heap.size + 1) = False := eq_false (by have := BT.lt; omega)
  have mT1 : w.heap.size < v2.heap.size + 1 := by have := BT.lt; omega
  have nY0 : (w.heap.size + 1 = v2.heap.size) = False := eq_false (by have := BY.lt; omega)
  have mY0 : w.heap.size + 1 < v2.heap.size := by have := BY.lt; omega
  have nY1 : (w.heap.size = v2.heap.size) = False := eq_false (by have := BY.lt; omega)
  have mY1 : w.heap.size < v2.heap.size := by have := BY.lt; omega
  have nR0 : (w.heap.size + 1 + 1 = v2.heap.size) = False := eq_false (by have := BR.lt; omega)
  have mR0 : w.heap.size + 1 + 1 < v2.heap.size := by have := BR.lt; omega
  have nR1 : (w.heap.size + 1 = v2.heap.size) = False := eq_false (by have := BR.lt; omega)
  have mR1 : w.heap.size + 1 < v2.heap.size := by have := BR.lt; omega
  go_wp2_with fail
  refine Lp.settleC (fun w' => Lp.Bk w' (w.heap.size) #[.float .f64 t0, .float .f64 t1, .float .f64 t2, .float .f64 t3, .float .f64 t4, .float .f64 t5, .float .f64 t6, .float .f64 t7, .float .f64 t8] 26 ∧ Lp.Bk w' (w.heap.size + 1) #[.float .f64 r0, .float .f64 r1, .float .f64 r2, .float .f64 r3, .float .f64 r4, .float .f64 r5] 28 ∧ Lp.Bk w' (w.heap.size + 1 + 1) #[.int .i64 0, .float .f64 0, .float .f64 0, .float .f64 0] 30 ∧ Lp.Bk w' (v2.heap.size) #[.float .f64 x, .float .f64 y, .float .f64 z] 24 ∧ Lp.Bk w' (v2.heap.size + 1) #[.float .f64 p, .float .f64 q, .float .f64 r] 24 ∧ Cl w w') ⟨((BT).alo _).alo _, ((BY).alo _).alo _, ((BR).alo _).alo _, (Lp.Bk.al _ _ _).alo _, Lp.Bk.al1 _ _ _ _, ((HB).alloc _).alloc _⟩ ?_
  clear kT kY kR zR nT0 mT0 nT1 mT1 nY0 mY0 nY1 mY1 nR0 mR0 nR1 mR1
  clear BT BY BR HB
  rintro v3 ⟨BT, BY, BR, BE, BF, HB⟩
  have kT := BT.cell
  have kY := BY.cell
  have kR := BR.cell
  have kE := BE.cell
  have kF := BF.cell
  have zR := BR.frz
  have nT0 : (w.heap.size = v3.heap.size) = False := eq_false (by have := BT.lt; omega)
  have mT0 : w.heap.size < v3.heap.size := by have := BT.lt; omega
  have nT1 : (w.heap.size = v3.heap.size + 1) = False := eq_false (by have := BT.lt; omega)
  have mT1 : w.heap.size < v3.heap.size + 1 := by have := BT.lt; omega
  have nY0 : (w.heap.size + 1 = v3.heap.size) = False := eq_false (by have := BY.lt; omega)
  have mY0 : w.heap.size + 1 < v3.heap.size := by have := BY.lt; omega
  have nY1 : (w.heap.size = v3.heap.size) = False := eq_false (by have := BY.lt; omega)
  have mY1 : w.heap.size < v3.heap.size := by have := BY.lt; omega
  have nR0 : (w.heap.size + 1 + 1 = v3.heap.size) = False := eq_false (by have := BR.lt; omega)
  have mR0 : w.heap.size + 1 + 1 < v3.heap.size := by have := BR.lt; omega
  have nR1 : (w.heap.size + 1 = v3.heap.size) = False := eq_false (by have := BR.lt; omega)
  have mR1 : w.heap.size + 1 < v3.heap.size := by have := BR.lt; omega
  have nE0 : (v2.heap.size = v3.heap.size) = False := eq_false (by have := BE.lt; omega)
  have mE0 : v2.heap.size < v3.heap.size := by have := BE.lt; omega
  have nE1 : (v2.heap.size = v3.heap.size + 1) = False := eq_false (by have := BE.lt; omega)
  have mE1 : v2.heap.size < v3.heap.size + 1 := by have := BE.lt; omega
  have nF0 : (v2.heap.size + 1 = v3.heap.size) = False := eq_false (by have := BF.lt; omega)
  have mF0 : v2.heap.size + 1 < v3.heap.size := by have := BF.lt; omega
  have nF1 : (v2.heap.size = v3.heap.size) = False := eq_false (by have := BF.lt; omega)
  have mF1 : v2.heap.size < v3.heap.size := by have := BF.lt; omega
  refine Calls.mono (cross_c _ hD hp) ?_
  rintro e v4 ⟨v, rfl, ⟨x1, y1, z1, rfl, h1, w1⟩, hm⟩
  clear kT kY kR kE kF zR nT0 mT0 nT1 mT1 nY0 mY0 nY1 mY1 nR0 mR0 nR1 mR1 nE0 mE0 nE1 mE1 nF0 mF0 nF1 mF1
  replace BT := BT.keep hm
  replace BY := BY.keep hm
  replace BR := BR.keep hm
  replace BE := BE.keep hm
  replace BF := BF.keep hm
  replace HB := HB.call hm
  clear hm
  have kT := BT.cell
  have kY := BY.cell
  have kR := BR.cell
  have kE := BE.cell
  have kF := BF.cell
  have zR := BR.frz
  have nT0 : (w.heap.size = v4.heap.size) = False := eq_false (by have := BT.lt; omega)
  have mT0 : w.heap.size < v4.heap.size := by have := BT.lt; omega
  have nT1 : (w.heap.size = v4.heap.size + 1) = False := eq_false (by have := BT.lt; omega)
  have mT1 : w.heap.size < v4.heap.size + 1 := by have := BT.lt; omega
  have nY0 : (w.heap.size + 1 = v4.heap.size) = False := eq_false (by have := BY.lt; omega)
  have mY0 : w.heap.size + 1 < v4.heap.size := by have := BY.lt; omega
  have nY1 : (w.heap.size = v4.heap.size) = False := eq_false (by have := BY.lt; omega)
  have mY1 : w.heap.size < v4.heap.size := by have := BY.lt; omega
  have nR0 : (w.heap.size + 1 + 1 = v4.heap.size) = False := eq_false (by have := BR.lt; omega)
  have mR0 : w.heap.size + 1 + 1 < v4.heap.size := by have := BR.lt; omega
  have nR1 : (w.heap.size + 1 = v4.heap.size) = False := eq_false (by have := BR.lt; omega)
  have mR1 : w.heap.size + 1 < v4.heap.size := by have := BR.lt; omega
  have nE0 : (v2.heap.size = v4.heap.size) = False := eq_false (by have := BE.lt; omega)
  have mE0 : v2.heap.size < v4.heap.size := by have := BE.lt; omega
  have nE1 : (v2.heap.size = v4.heap.size + 1) = False := eq_false (by have := BE.lt; omega)
  have mE1 : v2.heap.size < v4.heap.size + 1 := by have := BE.lt; omega
  have nF0 : (v2.heap.size + 1 = v4.heap.size) = False := eq_false (by have := BF.lt; omega)
  have mF0 : v2.heap.size + 1 < v4.heap.size := by have := BF.lt; omega
  have nF1 : (v2.heap.size = v4.heap.size) = False := eq_false (by have := BF.lt; omega)
  have mF1 : v2.heap.size < v4.heap.size := by have := BF.lt; omega
  go_wp2_with fail
  refine Lp.settleC (fun w' => Lp.Bk w' (w.heap.size) #[.float .f64 t0, .float .f64 t1, .float .f64 t2, .float .f64 t3, .float .f64 t4, .float .f64 t5, .float .f64 t6, .float .f64 t7, .float .f64 t8] 26 ∧ Lp.Bk w' (w.heap.size + 1) #[.float .f64 r0, .float .f64 r1, .float .f64 r2, .float .f64 r3, .float .f64 r4, .float .f64 r5] 28 ∧ Lp.Bk w' (w.heap.size + 1 + 1) #[.int .i64 0, .float .f64 0, .float .f64 0, .float .f64 0] 30 ∧ Lp.Bk w' (v2.heap.size) #[.float .f64 x, .float .f64 y, .float .f64 z] 24 ∧ Lp.Bk w' (v2.heap.size + 1) #[.float .f64 p, .float .f64 q, .float .f64 r] 24 ∧ Lp.Bk w' (v4.heap.size) #[.float .f64 x1, .float .f64 y1, .float .f64 z1] 24 ∧ Cl w w') ⟨(BT).alo _, (BY).alo _, (BR).alo _, (BE).alo _, (BF).alo _, Lp.Bk.al _ _ _, (HB).alloc _⟩ ?_
  clear kT kY kR kE kF zR nT0 mT0 nT1 mT1 nY0 mY0 nY1 mY1 nR0 mR0 nR1 mR1 nE0 mE0 nE1 mE1 nF0 mF0 nF1 mF1
  clear BT BY BR BE BF HB
  rintro v5 ⟨BT, BY, BR, BE, BF, BP, HB⟩
  have kT := BT.cell
  have kY := BY.cell
  have kR := BR.cell
  have kE := BE.cell
  have kF := BF.cell
  have kP := BP.cell
  have zR := BR.frz
  have nT0 : (w.heap.size = v5.heap.size) = False := eq_false (by have := BT.lt; omega)
  have mT0 : w.heap.size < v5.heap.size := by have := BT.lt; omega
  have nT1 : (w.heap.size = v5.heap.size + 1) = False := eq_false (by have := BT.lt; omega)
  have mT1 : w.heap.size < v5.heap.size + 1 := by have := BT.lt; omega
  have nY0 : (w.heap.size + 1 = v5.heap.size) = False := eq_false (by have := BY.lt; omega)
  have mY0 : w.heap.size + 1 < v5.heap.size := by have := BY.lt; omega
  have nY1 : (w.heap.size = v5.heap.size) = False := eq_false (by have := BY.lt; omega)
  have mY1 : w.heap.size < v5.heap.size := by have := BY.lt; omega
  have nR0 : (w.heap.size + 1 + 1 = v5.heap.size) = False := eq_false (by have := BR.lt; omega)
  have mR0 : w.heap.size + 1 + 1 < v5.heap.size := by have := BR.lt; omega
  have nR1 : (w.heap.size + 1 = v5.heap.size) = False := eq_false (by have := BR.lt; omega)
  have mR1 : w.heap.size + 1 < v5.heap.size := by have := BR.lt; omega
  have nE0 : (v2.heap.size = v5.heap.size) = False := eq_false (by have := BE.lt; omega)
  have mE0 : v2.heap.size < v5.heap.size := by have := BE.lt; omega
  have nE1 : (v2.heap.size = v5.heap.size + 1) = False := eq_false (by have := BE.lt; omega)
  have mE1 : v2.heap.size < v5.heap.size + 1 := by have := BE.lt; omega
  have nF0 : (v2.heap.size + 1 = v5.heap.size) = False := eq_false (by have := BF.lt; omega)
  have mF0 : v2.heap.size + 1 < v5.heap.size := by have := BF.lt; omega
  have nF1 : (v2.heap.size = v5.heap.size) = False := eq_false (by have := BF.lt; omega)
  have mF1 : v2.heap.size < v5.heap.size := by have := BF.lt; omega
  have nP0 : (v4.heap.size = v5.heap.size) = False := eq_false (by have := BP.lt; omega)
  have mP0 : v4.heap.size < v5.heap.size := by have := BP.lt; omega
  have nP1 : (v4.heap.size = v5.heap.size + 1) = False := eq_false (by have := BP.lt; omega)
  have mP1 : v4.heap.size < v5.heap.size + 1 := by have := BP.lt; omega
  refine Calls.mono (dot_c _ hx h1) ?_
  rintro e v6 ⟨v, rfl, ⟨d, rfl, hd⟩, hm⟩
  clear kT kY kR kE kF kP zR nT0 mT0 nT1 mT1 nY0 mY0 nY1 mY1 nR0 mR0 nR1 mR1 nE0 mE0 nE1 mE1 nF0 mF0 nF1 mF1 nP0 mP0 nP1 mP1
  replace BT := BT.keep hm
  replace BY := BY.keep hm
  replace BR := BR.keep hm
  replace BE := BE.keep hm
  replace BF := BF.keep hm
  replace BP := BP.keep hm
  replace HB := HB.call hm
  clear hm
  have kT := BT.cell
  have kY := BY.cell
  have kR := BR.cell
  have kE := BE.cell
  have kF := BF.cell
  have kP := BP.cell
  have zR := BR.frz
  have nT0 : (w.heap.size = v6.heap.size) = False := eq_false (by have := BT.lt; omega)
  have mT0 : w.heap.size < v6.heap.size := by have := BT.lt; omega
  have nT1 : (w.heap.size = v6.heap.size + 1) = False := eq_false (by have := BT.lt; omega)
  have mT1 : w.heap.size < v6.heap.size + 1 := by have := BT.lt; omega
  have nY0 : (w.heap.size + 1 = v6.heap.size) = False := eq_false (by have := BY.lt; omega)
  have mY0 : w.heap.size + 1 < v6.heap.size := by have := BY.lt; omega
  have nY1 : (w.heap.size = v6.heap.size) = False := eq_false (by have := BY.lt; omega)
  have mY1 : w.heap.size < v6.heap.size := by have := BY.lt; omega
  have nR0 : (w.heap.size + 1 + 1 = v6.heap.size) = False := eq_false (by have := BR.lt; omega)
  have mR0 : w.heap.size + 1 + 1 < v6.heap.size := by have := BR.lt; omega
  have nR1 : (w.heap.size + 1 = v6.heap.size) = False := eq_false (by have := BR.lt; omega)
  have mR1 : w.heap.size + 1 < v6.heap.size := by have := BR.lt; omega
  have nE0 : (v2.heap.size = v6.heap.size) = False := eq_false (by have := BE.lt; omega)
  have mE0 : v2.heap.size < v6.heap.size := by have := BE.lt; omega
  have nE1 : (v2.heap.size = v6.heap.size + 1) = False := eq_false (by have := BE.lt; omega)
  have mE1 : v2.heap.size < v6.heap.size + 1 := by have := BE.lt; omega
  have nF0 : (v2.heap.size + 1 = v6.heap.size) = False := eq_false (by have := BF.lt; omega)
  have mF0 : v2.heap.size + 1 < v6.heap.size := by have := BF.lt; omega
  have nF1 : (v2.heap.size = v6.heap.size) = False := eq_false (by have := BF.lt; omega)
  have mF1 : v2.heap.size < v6.heap.size := by have := BF.lt; omega
  have nP0 : (v4.heap.size = v6.heap.size) = False := eq_false (by have := BP.lt; omega)
  have mP0 : v4.heap.size < v6.heap.size := by have := BP.lt; omega
  have nP1 : (v4.heap.size = v6.heap.size + 1) = False := eq_false (by have := BP.lt; omega)
  have mP1 : v4.heap.size < v6.heap.size + 1 := by have := BP.lt; omega
  go_wp2_with fail
  refine upon_div (Sm.refl _) hd.sm ?_
  intro i ni hi
  go_wp2_with fail
  refine Lp.settleC (fun w' => Lp.Bk w' (w.heap.size) #[.float .f64 t0, .float .f64 t1, .float .f64 t2, .float .f64 t3, .float .f64 t4, .float .f64 t5, .float .f64 t6, .float .f64 t7, .float .f64 t8] 26 ∧ Lp.Bk w' (w.heap.size + 1) #[.float .f64 r0, .float .f64 r1, .float .f64 r2, .float .f64 r3, .float .f64 r4, .float .f64 r5] 28 ∧ Lp.Bk w' (w.heap.size + 1 + 1) #[.int .i64 0, .float .f64 0, .float .f64 0, .float .f64 0] 30 ∧ Lp.Bk w' (v2.heap.size) #[.float .f64 x, .float .f64 y, .float .f64 z] 24 ∧ Lp.Bk w' (v2.heap.size + 1) #[.float .f64 p, .float .f64 q, .float .f64 r] 24 ∧ Lp.Bk w' (v4.heap.size) #[.float .f64 x1, .float .f64 y1, .float .f64 z1] 24 ∧ Cl w w') ⟨BT.dr _, BY.dr _, BR.dr _, BE.dr _, BF.dr _, BP.dr _, HB.drewN _⟩ ?_
  clear kT kY kR kE kF kP zR nT0 mT0 nT1 mT1 nY0 mY0 nY1 mY1 nR0 mR0 nR1 mR1 nE0 mE0 nE1 mE1 nF0 mF0 nF1 mF1 nP0 mP0 nP1 mP1
  clear BT BY BR BE BF BP HB
  rintro v7 ⟨BT, BY, BR, BE, BF, BP, HB⟩
  have kT := BT.cell
  have kY := BY.cell
  have kR := BR.cell
  have kE := BE.cell
  have kF := BF.cell
  have kP := BP.cell
  have zR := BR.frz
  have nT0 : (w.heap.size = v7.heap.size) = False := eq_false (by have := BT.lt; omega)
  have mT0 : w.heap.size < v7.heap.size := by have := BT.lt; omega
  have nT1 : (w.heap.size = v7.heap.size + 1) = False := eq_false (by have := BT.lt; omega)
  have mT1 : w.heap.size < v7.heap.size + 1 := by have := BT.lt; omega
  have nY0 : (w.heap.size + 1 = v7.heap.size) = False := eq_false (by have := BY.lt; omega)
  have mY0 : w.heap.size + 1 < v7.heap.size := by have := BY.lt; omega
  have nY1 : (w.heap.size = v7.heap.size) = False := eq_false (by have := BY.lt; omega)
  have mY1 : w.heap.size < v7.heap.size := by have := BY.lt; omega
  have nR0 : (w.heap.size + 1 + 1 = v7.heap.size) = False := eq_false (by have := BR.lt; omega)
  have mR0 : w.heap.size + 1 + 1 < v7.heap.size := by have := BR.lt; omega
  have nR1 : (w.heap.size + 1 = v7.heap.size) = False := eq_false (by have := BR.lt; omega)
  have mR1 : w.heap.size + 1 < v7.heap.size := by have := BR.lt; omega
  have nE0 : (v2.heap.size = v7.heap.size) = False := eq_false (by have := BE.lt; omega)
  have mE0 : v2.heap.size < v7.heap.size := by have := BE.lt; omega
  have nE1 : (v2.heap.size = v7.heap.size + 1) = False := eq_false (by have := BE.lt; omega)
  have mE1 : v2.heap.size < v7.heap.size + 1 := by have := BE.lt; omega
  have nF0 : (v2.heap.size + 1 = v7.heap.size) = False := eq_false (by have := BF.lt; omega)
  have mF0 : v2.heap.size + 1 < v7.heap.size := by have := BF.lt; omega
  have nF1 : (v2.heap.size = v7.heap.size) = False := eq_false (by have := BF.lt; omega)
  have mF1 : v2.heap.size < v7.heap.size := by have := BF.lt; omega
  have nP0 : (v4.heap.size = v7.heap.size) = False := eq_false (by have := BP.lt; omega)
  have mP0 : v4.heap.size < v7.heap.size := by have := BP.lt; omega
  have nP1 : (v4.heap.size = v7.heap.size + 1) = False := eq_false (by have := BP.lt; omega)
  have mP1 : v4.heap.size < v7.heap.size + 1 := by have := BP.lt; omega
  refine Calls.mono (sub_c _ hO hA) ?_
  rintro e v8 ⟨v, rfl, ⟨x2, y2, z2, rfl, h2, w2⟩, hm⟩
  clear kT kY kR kE kF kP zR nT0 mT0 nT1 mT1 nY0 mY0 nY1 mY1 nR0 mR0 nR1 mR1 nE0 mE0 nE1 mE1 nF0 mF0 nF1 mF1 nP0 mP0 nP1 mP1
  replace BT := BT.keep hm
  replace BY := BY.keep hm
  replace BR := BR.keep hm
  replace BE := BE.keep hm
  replace BF := BF.keep hm
  replace BP := BP.keep hm
  replace HB := HB.call hm
  clear hm
  have kT := BT.cell
  have kY := BY.cell
  have kR := BR.cell
  have kE := BE.cell
  have kF := BF.cell
  have kP := BP.cell
  have zR := BR.frz
  have nT0 : (w.heap.size = v8.heap.size) = False := eq_false (by have := BT.lt; omega)
  have mT0 : w.heap.size < v8.heap.size := by have := BT.lt; omega
  have nT1 : (w.heap.size = v8.heap.size + 1) = False := eq_false (by have := BT.lt; omega)
  have mT1 : w.heap.size < v8.heap.size + 1 := by have := BT.lt; omega
  have nY0 : (w.heap.size + 1 = v8.heap.size) = False := eq_false (by have := BY.lt; omega)
  have mY0 : w.heap.size + 1 < v8.heap.size := by have := BY.lt; omega
  have nY1 : (w.heap.size = v8.heap.size) = False := eq_false (by have := BY.lt; omega)
  have mY1 : w.heap.size < v8.heap.size := by have := BY.lt; omega
  have nR0 : (w.heap.size + 1 + 1 = v8.heap.size) = False := eq_false (by have := BR.lt; omega)
  have mR0 : w.heap.size + 1 + 1 < v8.heap.size := by have := BR.lt; omega
  have nR1 : (w.heap.size + 1 = v8.heap.size) = False := eq_false (by have := BR.lt; omega)
  have mR1 : w.heap.size + 1 < v8.heap.size := by have := BR.lt; omega
  have nE0 : (v2.heap.size = v8.heap.size) = False := eq_false (by have := BE.lt; omega)
  have mE0 : v2.heap.size < v8.heap.size := by have := BE.lt; omega
  have nE1 : (v2.heap.size = v8.heap.size + 1) = False := eq_false (by have := BE.lt; omega)
  have mE1 : v2.heap.size < v8.heap.size + 1 := by have := BE.lt; omega
  have nF0 : (v2.heap.size + 1 = v8.heap.size) = False := eq_false (by have := BF.lt; omega)
  have mF0 : v2.heap.size + 1 < v8.heap.size := by have := BF.lt; omega
  have nF1 : (v2.heap.size = v8.heap.size) = False := eq_false (by have := BF.lt; omega)
  have mF1 : v2.heap.size < v8.heap.size := by have := BF.lt; omega
  have nP0 : (v4.heap.size = v8.heap.size) = False := eq_false (by have := BP.lt; omega)
  have mP0 : v4.heap.size < v8.heap.size := by have := BP.lt; omega
  have nP1 : (v4.heap.size = v8.heap.size + 1) = False := eq_false (by have := BP.lt; omega)
  have mP1 : v4.heap.size < v8.heap.size + 1 := by have := BP.lt; omega
  go_wp2_with fail
  refine Lp.settleC (fun w' => Lp.Bk w' (w.heap.size) #[.float .f64 t0, .float .f64 t1, .float .f64 t2, .float .f64 t3, .float .f64 t4, .float .f64 t5, .float .f64 t6, .float .f64 t7, .float .f64 t8] 26 ∧ Lp.Bk w' (w.heap.size + 1) #[.float .f64 r0, .float .f64 r1, .float .f64 r2, .float .f64 r3, .float .f64 r4, .float .f64 r5] 28 ∧ Lp.Bk w' (w.heap.size + 1 + 1) #[.int .i64 0, .float .f64 0, .float .f64 0, .float .f64 0] 30 ∧ Lp.Bk w' (v2.heap.size) #[.float .f64 x, .float .f64 y, .float .f64 z] 24 ∧ Lp.Bk w' (v2.heap.size + 1) #[.float .f64 p, .float .f64 q, .float .f64 r] 24 ∧ Lp.Bk w' (v4.heap.size) #[.float .f64 x1, .float .f64 y1, .float .f64 z1] 24 ∧ Lp.Bk w' (v8.heap.size) #[.float .f64 x2, .float .f64 y2, .float .f64 z2] 24 ∧ Cl w w') ⟨(BT).alo _, (BY).alo _, (BR).alo _, (BE).alo _, (BF).alo _, (BP).alo _, Lp.Bk.al _ _ _, (HB).alloc _⟩ ?_
  clear kT kY kR kE kF kP zR nT0 mT0 nT1 mT1 nY0 mY0 nY1 mY1 nR0 mR0 nR1 mR1 nE0 mE0 nE1 mE1 nF0 mF0 nF1 mF1 nP0 mP0 nP1 mP1
  clear BT BY BR BE BF BP HB
  rintro v9 ⟨BT, BY, BR, BE, BF, BP, BS, HB⟩
  have kT := BT.cell
  have kY := BY.cell
  have kR := BR.cell
  have kE := BE.cell
  have kF := BF.cell
  have kP := BP.cell
  have kS := BS.cell
  have zR := BR.frz
  have nT0 : (w.heap.size = v9.heap.size) = False := eq_false (by have := BT.lt; omega)
  have mT0 : w.heap.size < v9.heap.size := by have := BT.lt; omega
  have nT1 : (w.heap.size = v9.heap.size + 1) = False := eq_false (by have := BT.lt; omega)
  have mT1 : w.heap.size < v9.heap.size + 1 := by have := BT.lt; omega
  have nY0 : (w.heap.size + 1 = v9.heap.size) = False := eq_false (by have := BY.lt; omega)
  have mY0 : w.heap.size + 1 < v9.heap.size := by have := BY.lt; omega
  have nY1 : (w.heap.size = v9.heap.size) = False := eq_false (by have := BY.lt; omega)
  have mY1 : w.heap.size < v9.heap.size := by have := BY.lt; omega
  have nR0 : (w.heap.size + 1 + 1 = v9.heap.size) = False := eq_false (by have := BR.lt; omega)
  have mR0 : w.heap.size + 1 + 1 < v9.heap.size := by have := BR.lt; omega
  have nR1 : (w.heap.size + 1 = v9.heap.size) = False := eq_false (by have := BR.lt; omega)
  have mR1 : w.heap.size + 1 < v9.heap.size := by have := BR.lt; omega
  have nE0 : (v2.heap.size = v9.heap.size) = False := eq_false (by have := BE.lt; omega)
  have mE0 : v2.heap.size < v9.heap.size := by have := BE.lt; omega
  have nE1 : (v2.heap.size = v9.heap.size + 1) = False := eq_false (by have := BE.lt; omega)
  have mE1 : v2.heap.size < v9.heap.size + 1 := by have := BE.lt; omega
  have nF0 : (v2.heap.size + 1 = v9.heap.size) = False := eq_false (by have := BF.lt; omega)
  have mF0 : v2.heap.size + 1 < v9.heap.size := by have := BF.lt; omega
  have nF1 : (v2.heap.size = v9.heap.size) = False := eq_false (by have := BF.lt; omega)
  have mF1 : v2.heap.size < v9.heap.size := by have := BF.lt; omega
  have nP0 : (v4.heap.size = v9.heap.size) = False := eq_false (by have := BP.lt; omega)
  have mP0 : v4.heap.size < v9.heap.size := by have := BP.lt; omega
  have nP1 : (v4.heap.size = v9.heap.size + 1) = False := eq_false (by have := BP.lt; omega)
  have mP1 : v4.heap.size < v9.heap.size + 1 := by have := BP.lt; omega
  have nS0 : (v8.heap.size = v9.heap.size) = False := eq_false (by have := BS.lt; omega)
  have mS0 : v8.heap.size < v9.heap.size := by have := BS.lt; omega
  have nS1 : (v8.heap.size = v9.heap.size + 1) = False := eq_false (by have := BS.lt; omega)
  have mS1 : v8.heap.size < v9.heap.size + 1 := by have := BS.lt; omega
  refine Calls.mono (cross_c _ h2 hx) ?_
  rintro e v10 ⟨v, rfl, ⟨x3, y3, z3, rfl, h3, w3⟩, hm⟩
  clear kT kY kR kE kF kP kS zR nT0 mT0 nT1 mT1 nY0 mY0 nY1 mY1 nR0 mR0 nR1 mR1 nE0 mE0 nE1 mE1 nF0 mF0 nF1 mF1 nP0 mP0 nP1 mP1 nS0 mS0 nS1 mS1
  replace BT := BT.keep hm
  replace BY := BY.keep hm
  replace BR := BR.keep hm
  replace BE := BE.keep hm
  replace BF := BF.keep hm
  replace BP := BP.keep hm
  replace BS := BS.keep hm
  replace HB := HB.call hm
  clear hm
  have kT := BT.cell
  have kY := BY.cell
  have kR := BR.cell
  have kE := BE.cell
  have kF := BF.cell
  have kP := BP.cell
  have kS := BS.cell
  have zR := BR.frz
  have nT0 : (w.heap.size = v10.heap.size) = False := eq_false (by have := BT.lt; omega)
  have mT0 : w.heap.size < v10.heap.size := by have := BT.lt; omega
  have nT1 : (w.heap.size = v10.heap.size + 1) = False := eq_false (by have := BT.lt; omega)
  have mT1 : w.heap.size < v10.heap.size + 1 := by have := BT.lt; omega
  have nY0 : (w.heap.size + 1 = v10.heap.size) = False := eq_false (by have := BY.lt; omega)
  have mY0 : w.heap.size + 1 < v10.heap.size := by have := BY.lt; omega
  have nY1 : (w.heap.size = v10.heap.size) = False := eq_false (by have := BY.lt; omega)
  have mY1 : w.heap.size < v10.heap.size := by have := BY.lt; omega
  have nR0 : (w.heap.size + 1 + 1 = v10.heap.size) = False := eq_false (by have := BR.lt; omega)
  have mR0 : w.heap.size + 1 + 1 < v10.heap.size := by have := BR.lt; omega
  have nR1 : (w.heap.size + 1 = v10.heap.size) = False := eq_false (by have := BR.lt; omega)
  have mR1 : w.heap.size + 1 < v10.heap.size := by have := BR.lt; omega
  have nE0 : (v2.heap.size = v10.heap.size) = False := eq_false (by have := BE.lt; omega)
  have mE0 : v2.heap.size < v10.heap.size := by have := BE.lt; omega
  have nE1 : (v2.heap.size = v10.heap.size + 1) = False := eq_false (by have := BE.lt; omega)
  have mE1 : v2.heap.size < v10.heap.size + 1 := by have := BE.lt; omega
  have nF0 : (v2.heap.size + 1 = v10.heap.size) = False := eq_false (by have := BF.lt; omega)
  have mF0 : v2.heap.size + 1 < v10.heap.size := by have := BF.lt; omega
  have nF1 : (v2.heap.size = v10.heap.size) = False := eq_false (by have := BF.lt; omega)
  have mF1 : v2.heap.size < v10.heap.size := by have := BF.lt; omega
  have nP0 : (v4.heap.size = v10.heap.size) = False := eq_false (by have := BP.lt; omega)
  have mP0 : v4.heap.size < v10.heap.size := by have := BP.lt; omega
  have nP1 : (v4.heap.size = v10.heap.size + 1) = False := eq_false (by have := BP.lt; omega)
  have mP1 : v4.heap.size < v10.heap.size + 1 := by have := BP.lt; omega
  have nS0 : (v8.heap.size = v10.heap.size) = False := eq_false (by have := BS.lt; omega)
  have mS0 : v8.heap.size < v10.heap.size := by have := BS.lt; omega
  have nS1 : (v8.heap.size = v10.heap.size + 1) = False := eq_false (by have := BS.lt; omega)
  have mS1 : v8.heap.size < v10.heap.size + 1 := by have := BS.lt; omega
  go_wp2_with fail
  refine Lp.settle (fun w' => Lp.Bk w' (w.heap.size) #[.float .f64 t0, .float .f64 t1, .float .f64 t2, .float .f64 t3, .float .f64 t4, .float .f64 t5, .float .f64 t6, .float .f64 t7, .float .f64 t8] 26 ∧ Lp.Bk w' (w.heap.size + 1) #[.float .f64 r0, .float .f64 r1, .float .f64 r2, .float .f64 r3, .float .f64 r4, .float .f64 r5] 28 ∧ Lp.Bk w' (w.heap.size + 1 + 1) #[.int .i64 0, .float .f64 0, .float .f64 0, .float .f64 0] 30 ∧ Lp.Bk w' (v2.heap.size) #[.float .f64 x, .float .f64 y, .float .f64 z] 24 ∧ Lp.Bk w' (v2.heap.size + 1) #[.float .f64 p, .float .f64 q, .float .f64 r] 24 ∧ Lp.Bk w' (v4.heap.size) #[.float .f64 x1, .float .f64 y1, .float .f64 z1] 24 ∧ Lp.Bk w' (v8.heap.size) #[.float .f64 x2, .float .f64 y2, .float .f64 z2] 24 ∧ Lp.Bk w' (v10.heap.size) #[.float .f64 x3, .float .f64 y3, .float .f64 z3] 24 ∧ Cl w w') ⟨(BT).alo _, (BY).alo _, (BR).alo _, (BE).alo _, (BF).alo _, (BP).alo _, (BS).alo _, Lp.Bk.al _ _ _, (HB).alloc _⟩ ?_
  clear kT kY kR kE kF kP kS zR nT0 mT0 nT1 mT1 nY0 mY0 nY1 mY1 nR0 mR0 nR1 mR1 nE0 mE0 nE1 mE1 nF0 mF0 nF1 mF1 nP0 mP0 nP1 mP1 nS0 mS0 nS1 mS1
  clear BT BY BR BE BF BP BS HB
  rintro v11 ⟨BT, BY, BR, BE, BF, BP, BS, BQ, HB⟩
  have kT := BT.cell
  have kY := BY.cell
  have kR := BR.cell
  have kE := BE.cell
  have kF := BF.cell
  have kP := BP.cell
  have kS := BS.cell
  have kQ := BQ.cell
  have zR := BR.frz
  have nT0 : (w.heap.size = v11.heap.size) = False := eq_false (by have := BT.lt; omega)
  have mT0 : w.heap.size < v11.heap.size := by have := BT.lt; omega
  have nT1 : (w.heap.size = v11.heap.size + 1) = False := eq_false (by have := BT.lt; omega)
  have mT1 : w.heap.size < v11.heap.size + 1 := by have := BT.lt; omega
  have nY0 : (w.heap.size + 1 = v11.heap.size) = False := eq_false (by have := BY.lt; omega)
  have mY0 : w.heap.size + 1 < v11.heap.size := by have := BY.lt; omega
  have nY1 : (w.heap.size = v11.heap.size) = False := eq_false (by have := BY.lt; omega)
  have mY1 : w.heap.size < v11.heap.size := by have := BY.lt; omega
  have nR0 : (w.heap.size + 1 + 1 = v11.heap.size) = False := eq_false (by have := BR.lt; omega)
  have mR0 : w.heap.size + 1 + 1 < v11.heap.size := by have := BR.lt; omega
  have nR1 : (w.heap.size + 1 = v11.heap.size) = False := eq_false (by have := BR.lt; omega)
  have mR1 : w.heap.size + 1 < v11.heap.size := by have := BR.lt; omega
  have nE0 : (v2.heap.size = v11.heap.size) = False := eq_false (by have := BE.lt; omega)
  have mE0 : v2.heap.size < v11.heap.size := by have := BE.lt; omega
  have nE1 : (v2.heap.size = v11.heap.size + 1) = False := eq_false (by have := BE.lt; omega)
  have mE1 : v2.heap.size < v11.heap.size + 1 := by have := BE.lt; omega
  have nF0 : (v2.heap.size + 1 = v11.heap.size) = False := eq_false (by have := BF.lt; omega)
  have mF0 : v2.heap.size + 1 < v11.heap.size := by have := BF.lt; omega
  have nF1 : (v2.heap.size = v11.heap.size) = False := eq_false (by have := BF.lt; omega)
  have mF1 : v2.heap.size < v11.heap.size := by have := BF.lt; omega
  have nP0 : (v4.heap.size = v11.heap.size) = False := eq_false (by have := BP.lt; omega)
  have mP0 : v4.heap.size < v11.heap.size := by have := BP.lt; omega
  have nP1 : (v4.heap.size = v11.heap.size + 1) = False := eq_false (by have := BP.lt; omega)
  have mP1 : v4.heap.size < v11.heap.size + 1 := by have := BP.lt; omega
  have nS0 : (v8.heap.size = v11.heap.size) = False := eq_false (by have := BS.lt; omega)
  have mS0 : v8.heap.size < v11.heap.size := by have := BS.lt; omega
  have nS1 : (v8.heap.size = v11.heap.size + 1) = False := eq_false (by have := BS.lt; omega)
  have mS1 : v8.heap.size < v11.heap.size + 1 := by have := BS.lt; omega
  have nQ0 : (v10.heap.size = v11.heap.size) = False := eq_false (by have := BQ.lt; omega)
  have mQ0 : v10.heap.size < v11.heap.size := by have := BQ.lt; omega
  have nQ1 : (v10.heap.size = v11.heap.size + 1) = False := eq_false (by have := BQ.lt; omega)
  have mQ1 : v10.heap.size < v11.heap.size + 1 := by have := BQ.lt; omega
  apply Lp.wp_region_loose _ _ 17 (by kernel_rfl) (by kernel_rfl) (by kernel_rfl) (Below.refl _ _)
  apply Lp.facts
  · intro w1 hw
    exact And.intro (BT.cl hw).cell (And.intro (BY.cl hw).cell (And.intro (BR.cl hw).cell (And.intro (BE.cl hw).cell (And.intro (BF.cl hw).cell (And.intro (BP.cl hw).cell (And.intro (BS.cl hw).cell ((BQ.cl hw).cell)))))))
  intro HF
  iterate 2 (
    apply Lp.one ?_ rfl
    · intro w hw
      obtain ⟨k0, k1, k2, k3, k4, k5, k6, k7⟩ := HF.out _ hw
      go_simp
      exact rfl
    intro K hK
    go_simp
    refine hK.out _ ?_
    clear hK K)
  apply Lp.any rfl
  · intro w hw
    go_simp
    exact Lp.ret (dot_c _ hp h3)
  intro K hK
  rintro v ⟨d1, rfl, k1⟩
  go_simp
  refine hK.out _ ?_
  clear hK K
  iterate 1 (
    apply Lp.one ?_ rfl
    · intro w hw
      obtain ⟨k0, k1, k2, k3, k4, k5, k6, k7⟩ := HF.out _ hw
      go_simp
      exact rfl
    intro K hK
    go_simp
    refine hK.out _ ?_
    clear hK K)
  apply Lp.any rfl
  · intro w hw
    go_simp
    exact Lp.ret (tproduct_any k1.sm hi.sm _)
  intro K hK
  rintro v ⟨m1, rfl, l1⟩
  go_simp
  refine hK.out _ ?_
  clear hK K
  iterate 2 (
    apply Lp.one ?_ rfl
    · intro w hw
      obtain ⟨k0, k1, k2, k3, k4, k5, k6, k7⟩ := HF.out _ hw
      go_simp
      exact rfl
    intro K hK
    go_simp
    refine hK.out _ ?_
    clear hK K)
  apply Lp.any rfl
  · intro w hw
    go_simp
    exact Lp.ret (dot_c _ h2 h1)
  intro K hK
  rintro v ⟨d2, rfl, k2⟩
  go_simp
  refine hK.out _ ?_
  clear hK K
  iterate 1 (
    apply Lp.one ?_ rfl
    · intro w hw
      obtain ⟨k0, k1, k2, k3, k4, k5, k6, k7⟩ := HF.out _ hw
      go_simp
      exact rfl
    intro K hK
    go_simp
    refine hK.out _ ?_
    clear hK K)
  apply Lp.any rfl
  · intro w hw
    go_simp
    exact Lp.ret (tproduct_any k2.sm hi.sm _)
  intro K hK
  rintro v ⟨m2, rfl, l2⟩
  go_simp
  refine hK.out _ ?_
  clear hK K
  iterate 3 (
    apply Lp.one ?_ rfl
    · intro w hw
      obtain ⟨k0, k1, k2, k3, k4, k5, k6, k7⟩ := HF.out _ hw
      go_simp
      exact rfl
    intro K hK
    go_simp
    refine hK.out _ ?_
    clear hK K)
  apply Lp.any rfl
  · intro w hw
    go_simp
    exact Lp.ret (dot_c _ hD h3)
  intro K hK
  rintro v ⟨d3, rfl, k3⟩
  go_simp
  refine hK.out _ ?_
  clear hK K
  iterate 1 (
    apply Lp.one ?_ rfl
    · intro w hw
      obtain ⟨k0, k1, k2, k3, k4, k5, k6, k7⟩ := HF.out _ hw
      go_simp
      exact rfl
    intro K hK
    go_simp
    refine hK.out _ ?_
    clear hK K)
  apply Lp.any rfl
  · intro w hw
    go_simp
    exact Lp.ret (tproduct_any k3.sm hi.sm _)
  intro K hK
  rintro v ⟨m3, rfl, l3⟩
  go_simp
  refine hK.out _ ?_
  clear hK K
  iterate 1 (
    apply Lp.one ?_ rfl
    · intro w hw
      obtain ⟨k0, k1, k2, k3, k4, k5, k6, k7⟩ := HF.out _ hw
      go_simp
      exact rfl
    intro K hK
    go_simp
    refine hK.out _ ?_
    clear hK K)
  rotate_left
  exact []
  intro v12 hm
  clear kT kY kR kE kF kP kS kQ zR nT0 mT0 nT1 mT1 nY0 mY0 nY1 mY1 nR0 mR0 nR1 mR1 nE0 mE0 nE1 mE1 nF0 mF0 nF1 mF1 nP0 mP0 nP1 mP1 nS0 mS0 nS1 mS1 nQ0 mQ0 nQ1 mQ1
  replace BT := BT.keep hm
  replace BY := BY.keep hm
  replace BR := BR.keep hm
  replace BE := BE.keep hm
  replace BF := BF.keep hm
  replace BP := BP.keep hm
  replace BS := BS.keep hm
  replace BQ := BQ.keep hm
  replace HB := HB.call hm
  clear hm
  have kT := BT.cell
  have kY := BY.cell
  have kR := BR.cell
  have kE := BE.cell
  have kF := BF.cell
  have kP := BP.cell
  have kS := BS.cell
  have kQ := BQ.cell
  have zR := BR.frz
  have nT0 : (w.heap.size = v12.heap.size) = False := eq_false (by have := BT.lt; omega)
  have mT0 : w.heap.size < v12.heap.size := by have := BT.lt; omega
  have nT1 : (w.heap.size = v12.heap.size + 1) = False := eq_false (by have := BT.lt; omega)
  have mT1 : w.heap.size < v12.heap.size + 1 := by have := BT.lt; omega
  have nY0 : (w.heap.size + 1 = v12.heap.size) = False := eq_false (by have := BY.lt; omega)
  have mY0 : w.heap.size + 1 < v12.heap.size := by have := BY.lt; omega
  have nY1 : (w.heap.size = v12.heap.size) = False := eq_false (by have := BY.lt; omega)
  have mY1 : w.heap.size < v12.heap.size := by have := BY.lt; omega
  have nR0 : (w.heap.size + 1 + 1 = v12.heap.size) = False := eq_false (by have := BR.lt; omega)
  have mR0 : w.heap.size + 1 + 1 < v12.heap.size := by have := BR.lt; omega
  have nR1 : (w.heap.size + 1 = v12.heap.size) = False := eq_false (by have := BR.lt; omega)
  have mR1 : w.heap.size + 1 < v12.heap.size := by have := BR.lt; omega
  have nE0 : (v2.heap.size = v12.heap.size) = False := eq_false (by have := BE.lt; omega)
  have mE0 : v2.heap.size < v12.heap.size := by have := BE.lt; omega
  have nE1 : (v2.heap.size = v12.heap.size + 1) = False := eq_false (by have := BE.lt; omega)
  have mE1 : v2.heap.size < v12.heap.size + 1 := by have := BE.lt; omega
  have nF0 : (v2.heap.size + 1 = v12.heap.size) = False := eq_false (by have := BF.lt; omega)
  have mF0 : v2.heap.size + 1 < v12.heap.size := by have := BF.lt; omega
  have nF1 : (v2.heap.size = v12.heap.size) = False := eq_false (by have := BF.lt; omega)
  have mF1 : v2.heap.size < v12.heap.size := by have := BF.lt; omega
  have nP0 : (v4.heap.size = v12.heap.size) = False := eq_false (by have := BP.lt; omega)
  have mP0 : v4.heap.size < v12.heap.size := by have := BP.lt; omega
  have nP1 : (v4.heap.size = v12.heap.size + 1) = False := eq_false (by have := BP.lt; omega)
  have mP1 : v4.heap.size < v12.heap.size + 1 := by have := BP.lt; omega
  have nS0 : (v8.heap.size = v12.heap.size) = False := eq_false (by have := BS.lt; omega)
  have mS0 : v8.heap.size < v12.heap.size := by have := BS.lt; omega
  have nS1 : (v8.heap.size = v12.heap.size + 1) = False := eq_false (by have := BS.lt; omega)
  have mS1 : v8.heap.size < v12.heap.size + 1 := by have := BS.lt; omega
  have nQ0 : (v10.heap.size = v12.heap.size) = False := eq_false (by have := BQ.lt; omega)
  have mQ0 : v10.heap.size < v12.heap.size := by have := BQ.lt; omega
  have nQ1 : (v10.heap.size = v12.heap.size + 1) = False := eq_false (by have := BQ.lt; omega)
  have mQ1 : v10.heap.size < v12.heap.size + 1 := by have := BQ.lt; omega
  go_wp2_with fail
  refine bodyPost_ret (v := .agg #[.int .i64 0, .float .f64 m1, .float .f64 m2, .float .f64 m3]) (by simp [results, go_sem, kR]) rfl ⟨_, rfl, ⟨m1, m2, m3, rfl, ⟨l1.sm, l2.sm, l3.sm⟩, ⟨l1.wd, l2.wd, l3.wd⟩⟩, ?_⟩
  repeat (refine Below.setCell ?_ (by dsimp only; omega) _)
  exact HB

set_option maxRecDepth 100000 in
set_option maxHeartbeats 1000000 in
theorem miss_any  (w : World) : Ret Try.prog 25 #[] w (fun v => v = .agg #[.int .i64 (-1), .float .f64 0, .float .f64 0, .float .f64 0]) := by
  unfold Ret
  go_enter Try.func25, Try.ntmps25
  go_wp2_with fail
  refine bodyPost_ret (v := .agg #[.int .i64 (-1), .float .f64 0, .float .f64 0, .float .f64 0]) (by simp [results, go_sem]) rfl ⟨_, rfl, rfl, ?_⟩
  repeat (refine Below.setCell ?_ (by dsimp only; omega) _)
  exact (Below.refl _ _).alloc (Nat.le_refl _) _

end Go.Proofs.Ytfeomlbfmbpmaaa
