/- Products the other way round; the reference says yes. The walk of TriLooks. A vector that comes in, opened and shut. Structs of two and of three vectors that come in, opened and shut. -/
import Derived.ProofKit
import Derived.Lib.SmallJoins
import Derived.Test.YtfeomlbfmbpmaaaG2
import Derived.Test.YtfeomlbfmbpmaaaG1
import Derived.Test.YtfeomlbfmbpmaaaRows
import Derived.Test.YtfeomlbfmbpmaaaG9
import Derived.Test.YtfeomlbfmbpmaaaG11
namespace Go.Proofs.Ytfeomlbfmbpmaaa
open Go.RowKit Fl

theorem product_comm (d e : Ieee.Datum) : d.product e = e.product d := by
  cases d <;> cases e <;> simp [Ieee.Datum.product, Nat.mul_comm, Int.add_comm, Bool.xor_comm]
theorem fmul_comm (x y : Nat) : fmul x y = fmul y x := by
  unfold fmul Ieee.Format.mul
  rw [product_comm]

theorem dot_comm (ax ay az bx bY bz : Nat) : dotF ax ay az bx bY bz = dotF bx bY bz ax ay az := by
  unfold dotF
  rw [fmul_comm ax, fmul_comm ay, fmul_comm az]
theorem rsame_true {x y : Nat} (h : Sm x y) (w : World) : Ret Try.prog 21 #[.float .f64 x, .float .f64 y] w (fun v => v = .bool true) :=
  (rsame_any x y w).mono fun _ _ ⟨he, hw⟩ => ⟨_, he, by rw [sameB_of h], by rw [hw]; exact Below.refl _ _⟩
theorem ris_true {ax ay az bx bY bz : Nat} (hx : Sm ax bx) (hy : Sm ay bY) (hz : Sm az bz) (w : World) : Ret Try.prog 19 #[.agg #[.float .f64 ax, .float .f64 ay, .float .f64 az], .agg #[.float .f64 bx, .float .f64 bY, .float .f64 bz]] w (fun v => v = .bool true) :=
  (ris_any ax ay az bx bY bz w).mono fun v h => by rw [h, sameB_of hx, sameB_of hy, sameB_of hz]; rfl

end Go.Proofs.Ytfeomlbfmbpmaaa

namespace Go.Proofs.Ytfeomlbfmbpmaaa
open Go.RowKit Fl

theorem sqrt_c {x X : Nat} (h : Sm x X) (w : World) : Ret Try.prog 13 #[.float .f64 x] w (isF (fsqrt X)) := (sqrt_any x w).mono fun v k => by rw [← fsqrt_congr h]; exact k

theorem ris_c {x y z p q r : Nat} {P : V3} (h : S3 x y z P) (k : S3 p q r P) (w : World) : Ret Try.prog 19 #[.agg #[.float .f64 x, .float .f64 y, .float .f64 z], .agg #[.float .f64 p, .float .f64 q, .float .f64 r]] w (fun v => v = .bool true) :=
  ris_true (h.x.trans k.x.symm) (h.y.trans k.y.symm) (h.z.trans k.z.symm) w

theorem rsame_c {x y X : Nat} (h : Sm x X) (k : Sm y X) (w : World) : Ret Try.prog 21 #[.float .f64 x, .float .f64 y] w (fun v => v = .bool true) := rsame_true (h.trans k.symm) w

set_option maxRecDepth 100000 in
set_option maxHeartbeats 4000000 in
theorem looks_walk (A B C : V3) (k l : Nat) (w : World) : Ret Try.prog 4 #[.agg #[.float .f64 A.x, .float .f64 A.y, .float .f64 A.z, .float .f64 B.x, .float .f64 B.y, .float .f64 B.z, .float .f64 C.x, .float .f64 C.y, .float .f64 C.z], .float .f64 k, .float .f64 l] w (fun v => v = .bool true) := by
  unfold Ret
  have HN := hid (fun w => normal_any A.self B.self C.self w)
  have HFl := hid (fun w => flat_any A.self B.self C.self w)
  have HQ := hid (fun w => area_any A.self B.self C.self w)
  have HE := hid (fun w => edges_any A.self B.self C.self w)
  have HA := hid (fun w => at_any A.self B.self C.self (Sm.refl k) (Sm.refl l) w)
  have HR := hid (fun w => rnormal_any A.self B.self C.self w)
  have HU := hid (fun (x y z : Nat) (h : S3 x y z ((B.sub A).cross (C.sub A))) w => runit_c w h)
  generalize ((B.sub A).cross (C.sub A)) = U at *
  have Ha := hid (show areaF U = fmul (fsqrt (U.dot U)) 4602678819172646912 from rfl)
  unfold isU at HN HU
  generalize U.ok = b at *
  have A' := A.self
  have B' := B.self
  have C' := C.self
  have HS := hid (And.intro A' (And.intro B' C'))
  clear A' B' C'
  have HB : Cl w w := Below.refl _ _
  cases b
  all_goals
    go_enter Try.func4, Try.ntmps4
    go_wp2_with fail
    refine Lp.settleC (fun w' => Lp.Bk w' (w.heap.size) #[.float .f64 A.x, .float .f64 A.y, .float .f64 A.z, .float .f64 B.x, .float .f64 B.y, .float .f64 B.z, .float .f64 C.x, .float .f64 C.y, .float .f64 C.z] 26 ∧ Cl w w') ⟨Lp.Bk.al _ _ _, (HB).alloc _⟩ ?_
    clear HB
    rintro v1 ⟨BT, HB⟩
    have kT := BT.cell
    have nT0 : (w.heap.size = v1.heap.size) = False := eq_false (by have := BT.lt; omega)
    have mT0 : w.heap.size < v1.heap.size := by have := BT.lt; omega
    have nT1 : (w.heap.size = v1.heap.size + 1) = False := eq_false (by have := BT.lt; omega)
    have mT1 : w.heap.size < v1.heap.size + 1 := by have := BT.lt; omega
    refine Calls.mono (HN.out _) ?_
    rintro e v2 ⟨v, rfl, ⟨x0, y0, z0, rfl, h0, w0⟩, hm⟩
    clear kT nT0 mT0 nT1 mT1
    replace BT := BT.keep hm
    replace HB := HB.call hm
    clear hm
    have kT := BT.cell
    have nT0 : (w.heap.size = v2.heap.size) = False := eq_false (by have := BT.lt; omega)
    have mT0 : w.heap.size < v2.heap.size := by have := BT.lt; omega
    have nT1 : (w.heap.size = v2.heap.size + 1) = False := eq_false (by have := BT.lt; omega)
    have mT1 : w.heap.size < v2.heap.size + 1 := by have := BT.lt; omega
    go_wp2_with fail
    refine Lp.settleC (fun w' => Lp.Bk w' (w.heap.size) #[.float .f64 A.x, .float .f64 A.y, .float .f64 A.z, .float .f64 B.x, .float .f64 B.y, .float .f64 B.z, .float .f64 C.x, .float .f64 C.y, .float .f64 C.z] 26 ∧ Lp.Bk w' (v2.heap.size) #[.float .f64 x0, .float .f64 y0, .float .f64 z0] 24 ∧ Cl w w') ⟨(BT).alo _, Lp.Bk.al _ _ _, (HB).alloc _⟩ ?_
    clear kT nT0 mT0 nT1 mT1
    clear BT HB
    rintro v3 ⟨BT, BN, HB⟩
    have kT := BT.cell
    have kN := BN.cell
    have nT0 : (w.heap.size = v3.heap.size) = False := eq_false (by have := BT.lt; omega)
    have mT0 : w.heap.size < v3.heap.size := by have := BT.lt; omega
    have nT1 : (w.heap.size = v3.heap.size + 1) = False := eq_false (by have := BT.lt; omega)
    have mT1 : w.heap.size < v3.heap.size + 1 := by have := BT.lt; omega
    have nN0 : (v2.heap.size = v3.heap.size) = False := eq_false (by have := BN.lt; omega)
    have mN0 : v2.heap.size < v3.heap.size := by have := BN.lt; omega
    have nN1 : (v2.heap.size = v3.heap.size + 1) = False := eq_false (by have := BN.lt; omega)
    have mN1 : v2.heap.size < v3.heap.size + 1 := by have := BN.lt; omega
    refine Calls.mono (HR.out _) ?_
    rintro e v4 ⟨v, rfl, ⟨x1, y1, z1, rfl, h1, w1⟩, hm⟩
    clear kT kN nT0 mT0 nT1 mT1 nN0 mN0 nN1 mN1
    replace BT := BT.keep hm
    replace BN := BN.keep hm
    replace HB := HB.call hm
    clear hm
    have kT := BT.cell
    have kN := BN.cell
    have nT0 : (w.heap.size = v4.heap.size) = False := eq_false (by have := BT.lt; omega)
    have mT0 : w.heap.size < v4.heap.size := by have := BT.lt; omega
    have nT1 : (w.heap.size = v4.heap.size + 1) = False := eq_false (by have := BT.lt; omega)
    have mT1 : w.heap.size < v4.heap.size + 1 := by have := BT.lt; omega
    have nN0 : (v2.heap.size = v4.heap.size) = False := eq_false (by have := BN.lt; omega)
    have mN0 : v2.heap.size < v4.heap.size := by have := BN.lt; omega
    have nN1 : (v2.heap.size = v4.heap.size + 1) = False := eq_false (by have := BN.lt; omega)
    have mN1 : v2.heap.size < v4.heap.size + 1 := by have := BN.lt; omega
    go_wp2_with fail
    refine Calls.mono (HU.out _ _ _ h1 _) ?_
    rintro e v5 ⟨v, rfl, ⟨x2, y2, z2, rfl, h2, w2⟩, hm⟩
    clear kT kN nT0 mT0 nT1 mT1 nN0 mN0 nN1 mN1
    replace BT := BT.keep hm
    replace BN := BN.keep hm
    replace HB := HB.call hm
    clear hm
    have kT := BT.cell
    have kN := BN.cell
    have nT0 : (w.heap.size = v5.heap.size) = False := eq_false (by have := BT.lt; omega)
    have mT0 : w.heap.size < v5.heap.size := by have := BT.lt; omega
    have nT1 : (w.heap.size = v5.heap.size + 1) = False := eq_false (by have := BT.lt; omega)
    have mT1 : w.heap.size < v5.heap.size + 1 := by have := BT.lt; omega
    have nN0 : (v2.heap.size = v5.heap.size) = False := eq_false (by have := BN.lt; omega)
    have mN0 : v2.heap.size < v5.heap.size := by have := BN.lt; omega
    have nN1 : (v2.heap.size = v5.heap.size + 1) = False := eq_false (by have := BN.lt; omega)
    have mN1 : v2.heap.size < v5.heap.size + 1 := by have := BN.lt; omega
    go_wp2_with fail
    refine Lp.settle (fun w' => Lp.Bk w' (w.heap.size) #[.float .f64 A.x, .float .f64 A.y, .float .f64 A.z, .float .f64 B.x, .float .f64 B.y, .float .f64 B.z, .float .f64 C.x, .float .f64 C.y, .float .f64 C.z] 26 ∧ Lp.Bk w' (v2.heap.size) #[.float .f64 x0, .float .f64 y0, .float .f64 z0] 24 ∧ Lp.Bk w' (v5.heap.size) #[.float .f64 x2, .float .f64 y2, .float .f64 z2] 24 ∧ Cl w w') ⟨(BT).alo _, (BN).alo _, Lp.Bk.al _ _ _, (HB).alloc _⟩ ?_
    clear kT kN nT0 mT0 nT1 mT1 nN0 mN0 nN1 mN1
    clear BT BN HB
    rintro v6 ⟨BT, BN, BM, HB⟩
    have kT := BT.cell
    have kN := BN.cell
    have kM := BM.cell
    have nT0 : (w.heap.size = v6.heap.size) = False := eq_false (by have := BT.lt; omega)
    have mT0 : w.heap.size < v6.heap.size := by have := BT.lt; omega
    have nT1 : (w.heap.size = v6.heap.size + 1) = False := eq_false (by have := BT.lt; omega)
    have mT1 : w.heap.size < v6.heap.size + 1 := by have := BT.lt; omega
    have nN0 : (v2.heap.size = v6.heap.size) = False := eq_false (by have := BN.lt; omega)
    have mN0 : v2.heap.size < v6.heap.size := by have := BN.lt; omega
    have nN1 : (v2.heap.size = v6.heap.size + 1) = False := eq_false (by have := BN.lt; omega)
    have mN1 : v2.heap.size < v6.heap.size + 1 := by have := BN.lt; omega
    have nM0 : (v5.heap.size = v6.heap.size) = False := eq_false (by have := BM.lt; omega)
    have mM0 : v5.heap.size < v6.heap.size := by have := BM.lt; omega
    have nM1 : (v5.heap.size = v6.heap.size + 1) = False := eq_false (by have := BM.lt; omega)
    have mM1 : v5.heap.size < v6.heap.size + 1 := by have := BM.lt; omega
    apply Lw.region _ _ 8 (by kernel_rfl) (by kernel_rfl) (by kernel_rfl) (Below.refl _ _)
    apply Lw.facts
    · intro w1 hw
      exact And.intro (BT.cl hw).cell (And.intro (BN.cl hw).cell ((BM.cl hw).cell))
    intro HF
    iterate 1 (
      apply Lw.one ?_ rfl
      · intro w hw
        obtain ⟨k0, k1, k2⟩ := HF.out _ hw
        go_simp
        exact rfl
      intro K hK
      go_simp
      refine hK.out _ ?_
      clear hK K)
    apply Lw.any rfl
    · intro w hw
      go_simp
      exact Lw.ret (HR.out _)
    intro K hK
    rintro v ⟨x3, y3, z3, rfl, h3, w3⟩
    go_simp
    refine hK.out _ ?_
    clear hK K
    iterate 1 (
      apply Lw.one ?_ rfl
      · intro w hw
        obtain ⟨k0, k1, k2⟩ := HF.out _ hw
        go_simp
        exact rfl
      intro K hK
      go_simp
      refine hK.out _ ?_
      clear hK K)
    apply Lw.any rfl
    · intro w hw
      go_simp
      exact Lw.ret (HR.out _)
    intro K hK
    rintro v ⟨x4, y4, z4, rfl, h4, w4⟩
    go_simp
    refine hK.out _ ?_
    clear hK K
    apply Lw.any rfl
    · intro w hw
      go_simp
      exact Lw.ret (rdot_c _ h3 h4)
    intro K hK
    rintro v ⟨d, rfl, hd⟩
    go_simp
    refine hK.out _ ?_
    clear hK K
    apply Lw.any rfl
    · intro w hw
      go_simp
      exact Lw.ret (sqrt_c hd.sm _)
    intro K hK
    rintro v ⟨s, rfl, hs⟩
    go_simp
    refine hK.out _ ?_
    clear hK K
    apply Lw.any rfl
    · intro w hw
      go_simp
      exact Lw.mul (by first | exact Eqv.sm (by assumption) | exact Sm.refl _) (by first | exact Eqv.sm (by assumption) | exact Sm.refl _)
    intro K hK
    rintro v ⟨rq0, rfl, hq0⟩
    go_simp
    refine hK.out _ ?_
    clear hK K
    iterate 1 (
      apply Lw.one ?_ rfl
      · intro w hw
        obtain ⟨k0, k1, k2⟩ := HF.out _ hw
        go_simp
        exact rfl
      intro K hK
      go_simp
      refine hK.out _ ?_
      clear hK K)
    rotate_left
    exact []
    refine Lw.fin ?_
    intro v7 hm
    clear kT kN kM nT0 mT0 nT1 mT1 nN0 mN0 nN1 mN1 nM0 mM0 nM1 mM1
    replace BT := BT.keep hm
    replace BN := BN.keep hm
    replace BM := BM.keep hm
    replace HB := HB.call hm
    clear hm
    have kT := BT.cell
    have kN := BN.cell
    have kM := BM.cell
    have nT0 : (w.heap.size = v7.heap.size) = False := eq_false (by have := BT.lt; omega)
    have mT0 : w.heap.size < v7.heap.size := by have := BT.lt; omega
    have nT1 : (w.heap.size = v7.heap.size + 1) = False := eq_false (by have := BT.lt; omega)
    have mT1 : w.heap.size < v7.heap.size + 1 := by have := BT.lt; omega
    have nN0 : (v2.heap.size = v7.heap.size) = False := eq_false (by have := BN.lt; omega)
    have mN0 : v2.heap.size < v7.heap.size := by have := BN.lt; omega
    have nN1 : (v2.heap.size = v7.heap.size + 1) = False := eq_false (by have := BN.lt; omega)
    have mN1 : v2.heap.size < v7.heap.size + 1 := by have := BN.lt; omega
    have nM0 : (v5.heap.size = v7.heap.size) = False := eq_false (by have := BM.lt; omega)
    have mM0 : v5.heap.size < v7.heap.size := by have := BM.lt; omega
    have nM1 : (v5.heap.size = v7.heap.size + 1) = False := eq_false (by have := BM.lt; omega)
    have mM1 : v5.heap.size < v7.heap.size + 1 := by have := BM.lt; omega
    have ha : Sm rq0 (areaF U) := by rw [Ha.out]; exact hq0.sm
    go_wp2_with fail
    refine Calls.mono (HE.out _) ?_
    rintro e v8 ⟨v, rfl, ⟨x5, y5, z5, x6, y6, z6, rfl, ⟨h5, w5⟩, h6, w6⟩, hm⟩
    clear kT kN kM nT0 mT0 nT1 mT1 nN0 mN0 nN1 mN1 nM0 mM0 nM1 mM1
    replace BT := BT.keep hm
    replace BN := BN.keep hm
    replace BM := BM.keep hm
    replace HB := HB.call hm
    clear hm
    have kT := BT.cell
    have kN := BN.cell
    have kM := BM.cell
    have nT0 : (w.heap.size = v8.heap.size) = False := eq_false (by have := BT.lt; omega)
    have mT0 : w.heap.size < v8.heap.size := by have := BT.lt; omega
    have nT1 : (w.heap.size = v8.heap.size + 1) = False := eq_false (by have := BT.lt; omega)
    have mT1 : w.heap.size < v8.heap.size + 1 := by have := BT.lt; omega
    have nN0 : (v2.heap.size = v8.heap.size) = False := eq_false (by have := BN.lt; omega)
    have mN0 : v2.heap.size < v8.heap.size := by have := BN.lt; omega
    have nN1 : (v2.heap.size = v8.heap.size + 1) = False := eq_false (by have := BN.lt; omega)
    have mN1 : v2.heap.size < v8.heap.size + 1 := by have := BN.lt; omega
    have nM0 : (v5.heap.size = v8.heap.size) = False := eq_false (by have := BM.lt; omega)
    have mM0 : v5.heap.size < v8.heap.size := by have := BM.lt; omega
    have nM1 : (v5.heap.size = v8.heap.size + 1) = False := eq_false (by have := BM.lt; omega)
    have mM1 : v5.heap.size < v8.heap.size + 1 := by have := BM.lt; omega
    go_wp2_with fail
    refine Lp.settle (fun w' => Lp.Bk w' (w.heap.size) #[.float .f64 A.x, .float .f64 A.y, .float .f64 A.z, .float .f64 B.x, .float .f64 B.y, .float .f64 B.z, .float .f64 C.x, .float .f64 C.y, .float .f64 C.z] 26 ∧ Lp.Bk w' (v2.heap.size) #[.float .f64 x0, .float .f64 y0, .float .f64 z0] 24 ∧ Lp.Bk w' (v5.heap.size) #[.float .f64 x2, .float .f64 y2, .float .f64 z2] 24 ∧ Lp.Bk w' (v8.heap.size) #[.float .f64 x5, .float .f64 y5, .float .f64 z5] 24 ∧ Lp.Bk w' (v8.heap.size + 1) #[.float .f64 x6, .float .f64 y6, .float .f64 z6] 24 ∧ Cl w w') ⟨((BT).alo _).alo _, ((BN).alo _).alo _, ((BM).alo _).alo _, (Lp.Bk.al _ _ _).alo _, Lp.Bk.al1 _ _ _ _, ((HB).alloc _).alloc _⟩ ?_
    clear kT kN kM nT0 mT0 nT1 mT1 nN0 mN0 nN1 mN1 nM0 mM0 nM1 mM1
    clear BT BN BM HB
    rintro v9 ⟨BT, BN, BM, BE, BF, HB⟩
    have kT := BT.cell
    have kN := BN.cell
    have kM := BM.cell
    have kE := BE.cell
    have kF := BF.cell
    have nT0 : (w.heap.size = v9.heap.size) = False := eq_false (by have := BT.lt; omega)
    have mT0 : w.heap.size < v9.heap.size := by have := BT.lt; omega
    have nT1 : (w.heap.size = v9.heap.size + 1) = False := eq_false (by have := BT.lt; omega)
    have mT1 : w.heap.size < v9.heap.size + 1 := by have := BT.lt; omega
    have nN0 : (v2.heap.size = v9.heap.size) = False := eq_false (by have := BN.lt; omega)
    have mN0 : v2.heap.size < v9.heap.size := by have := BN.lt; omega
    have nN1 : (v2.heap.size = v9.heap.size + 1) = False := eq_false (by have := BN.lt; omega)
    have mN1 : v2.heap.size < v9.heap.size + 1 := by have := BN.lt; omega
    have nM0 : (v5.heap.size = v9.heap.size) = False := eq_false (by have := BM.lt; omega)
    have mM0 : v5.heap.size < v9.heap.size := by have := BM.lt; omega
    have nM1 : (v5.heap.size = v9.heap.size + 1) = False := eq_false (by have := BM.lt; omega)
    have mM1 : v5.heap.size < v9.heap.size + 1 := by have := BM.lt; omega
    have nE0 : (v8.heap.size = v9.heap.size) = False := eq_false (by have := BE.lt; omega)
    have mE0 : v8.heap.size < v9.heap.size := by have := BE.lt; omega
    have nE1 : (v8.heap.size = v9.heap.size + 1) = False := eq_false (by have := BE.lt; omega)
    have mE1 : v8.heap.size < v9.heap.size + 1 := by have := BE.lt; omega
    have nF0 : (v8.heap.size + 1 = v9.heap.size) = False := eq_false (by have := BF.lt; omega)
    have mF0 : v8.heap.size + 1 < v9.heap.size := by have := BF.lt; omega
    have nF1 : (v8.heap.size = v9.heap.size) = False := eq_false (by have := BF.lt; omega)
    have mF1 : v8.heap.size < v9.heap.size := by have := BF.lt; omega
    have jT : w.heap.size < v9.heap.size := BT.lt
    have jN : v2.heap.size < v9.heap.size := BN.lt
    have jM : v5.heap.size < v9.heap.size := BM.lt
    have jE : v8.heap.size < v9.heap.size := BE.lt
    have jF : v8.heap.size + 1 < v9.heap.size := BF.lt
    apply Lw.region _ _ 19 (by kernel_rfl) (by kernel_rfl) (by kernel_rfl) (Below.refl _ _)
    apply Lw.facts
    · intro w1 hw
      exact And.intro (BT.cl hw).cell (And.intro (BN.cl hw).cell (And.intro (BM.cl hw).cell (And.intro (BE.cl hw).cell ((BF.cl hw).cell))))
    intro HF
    iterate 6 (
      apply Lw.one ?_ rfl
      · intro w hw
        obtain ⟨k0, k1, k2, k3, k4⟩ := HF.out _ hw
        go_simp
        exact rfl
      intro K hK
      go_simp
      refine hK.out _ ?_
      clear hK K)
    apply Lw.any rfl
    · intro w hw
      go_simp
      exact Lw.ret (rsub_c _ HS.out.2.1 HS.out.1)
    intro K hK
    rintro v ⟨xa, ya, za, rfl, ka, wa⟩
    go_simp
    refine hK.out _ ?_
    clear hK K
    iterate 1 (
      apply Lw.one ?_ rfl
      · intro w hw
        obtain ⟨k0, k1, k2, k3, k4⟩ := HF.out _ hw
        go_simp
        exact rfl
      intro K hK
      go_simp
      refine hK.out _ ?_
      clear hK K)
    apply Lw.any rfl
    · intro w hw
      go_simp
      exact Lw.ret (rscale_c _ ka (Sm.refl _))
    intro K hK
    rintro v ⟨xb, yb, zb, rfl, kb, wb⟩
    go_simp
    refine hK.out _ ?_
    clear hK K
    apply Lw.any rfl
    · intro w hw
      go_simp
      exact Lw.ret (radd_c _ HS.out.1 kb)
    intro K hK
    rintro v ⟨xc, yc, zc, rfl, kc, wc⟩
    go_simp
    refine hK.out _ ?_
    clear hK K
    iterate 4 (
      apply Lw.one ?_ rfl
      · intro w hw
        obtain ⟨k0, k1, k2, k3, k4⟩ := HF.out _ hw
        go_simp
        exact rfl
      intro K hK
      go_simp
      refine hK.out _ ?_
      clear hK K)
    apply Lw.any rfl
    · intro w hw
      go_simp
      exact Lw.ret (rsub_c _ HS.out.2.2 HS.out.1)
    intro K hK
    rintro v ⟨xd, yd, zd, rfl, kd, wd⟩
    go_simp
    refine hK.out _ ?_
    clear hK K
    iterate 1 (
      apply Lw.one ?_ rfl
      · intro w hw
        obtain ⟨k0, k1, k2, k3, k4⟩ := HF.out _ hw
        go_simp
        exact rfl
      intro K hK
      go_simp
      refine hK.out _ ?_
      clear hK K)
    apply Lw.any rfl
    · intro w hw
      go_simp
      exact Lw.ret (rscale_c _ kd (Sm.refl _))
    intro K hK
    rintro v ⟨xe, ye, ze, rfl, ke, we⟩
    go_simp
    refine hK.out _ ?_
    clear hK K
    apply Lw.any rfl
    · intro w hw
      go_simp
      exact Lw.ret (radd_c _ kc ke)
    intro K hK
    rintro v ⟨xf, yf, zf, rfl, kf, wf⟩
    go_simp
    refine hK.out _ ?_
    clear hK K
    apply Lw.new _ rfl
    · intro w hw
      go_simp
      exact rfl
    intro K hK b2 hb2
    go_simp
    refine hK.out _ _ ?_
    clear hK K
    rotate_left
    exact []
    refine Lw.finE ?_
    intro v10 hm hE
    have BP : Lp.Bk v10 b2 #[.float .f64 0, .float .f64 0, .float .f64 0] 24 := ((hE 18).2 rfl).2
    clear hE
    clear kT kN kM kE kF nT0 mT0 nT1 mT1 nN0 mN0 nN1 mN1 nM0 mM0 nM1 mM1 nE0 mE0 nE1 mE1 nF0 mF0 nF1 mF1
    replace BT := BT.keep hm
    replace BN := BN.keep hm
    replace BM := BM.keep hm
    replace BE := BE.keep hm
    replace BF := BF.keep hm
    replace HB := HB.call hm
    have kT := BT.cell
    have kN := BN.cell
    have kM := BM.cell
    have kE := BE.cell
    have kF := BF.cell
    have kP := BP.cell
    have zP := BP.frz
    have nT0 : (w.heap.size = v10.heap.size) = False := eq_false (by have := BT.lt; omega)
    have mT0 : w.heap.size < v10.heap.size := by have := BT.lt; omega
    have nT1 : (w.heap.size = v10.heap.size + 1) = False := eq_false (by have := BT.lt; omega)
    have mT1 : w.heap.size < v10.heap.size + 1 := by have := BT.lt; omega
    have nN0 : (v2.heap.size = v10.heap.size) = False := eq_false (by have := BN.lt; omega)
    have mN0 : v2.heap.size < v10.heap.size := by have := BN.lt; omega
    have nN1 : (v2.heap.size = v10.heap.size + 1) = False := eq_false (by have := BN.lt; omega)
    have mN1 : v2.heap.size < v10.heap.size + 1 := by have := BN.lt; omega
    have nM0 : (v5.heap.size = v10.heap.size) = False := eq_false (by have := BM.lt; omega)
    have mM0 : v5.heap.size < v10.heap.size := by have := BM.lt; omega
    have nM1 : (v5.heap.size = v10.heap.size + 1) = False := eq_false (by have := BM.lt; omega)
    have mM1 : v5.heap.size < v10.heap.size + 1 := by have := BM.lt; omega
    have nE0 : (v8.heap.size = v10.heap.size) = False := eq_false (by have := BE.lt; omega)
    have mE0 : v8.heap.size < v10.heap.size := by have := BE.lt; omega
    have nE1 : (v8.heap.size = v10.heap.size + 1) = False := eq_false (by have := BE.lt; omega)
    have mE1 : v8.heap.size < v10.heap.size + 1 := by have := BE.lt; omega
    have nF0 : (v8.heap.size + 1 = v10.heap.size) = False := eq_false (by have := BF.lt; omega)
    have mF0 : v8.heap.size + 1 < v10.heap.size := by have := BF.lt; omega
    have nF1 : (v8.heap.size = v10.heap.size) = False := eq_false (by have := BF.lt; omega)
    have mF1 : v8.heap.size < v10.heap.size := by have := BF.lt; omega
    have nP0 : (b2 = v10.heap.size) = False := eq_false (by have := BP.lt; omega)
    have mP0 : b2 < v10.heap.size := by have := BP.lt; omega
    have nP1 : (b2 = v10.heap.size + 1) = False := eq_false (by have := BP.lt; omega)
    have mP1 : b2 < v10.heap.size + 1 := by have := BP.lt; omega
    go_wp2_with fail
    refine Lp.settle (fun w' => Lp.Bk w' (w.heap.size) #[.float .f64 A.x, .float .f64 A.y, .float .f64 A.z, .float .f64 B.x, .float .f64 B.y, .float .f64 B.z, .float .f64 C.x, .float .f64 C.y, .float .f64 C.z] 26 ∧ Lp.Bk w' (v2.heap.size) #[.float .f64 x0, .float .f64 y0, .float .f64 z0] 24 ∧ Lp.Bk w' (v5.heap.size) #[.float .f64 x2, .float .f64 y2, .float .f64 z2] 24 ∧ Lp.Bk w' (v8.heap.size) #[.float .f64 x5, .float .f64 y5, .float .f64 z5] 24 ∧ Lp.Bk w' (v8.heap.size + 1) #[.float .f64 x6, .float .f64 y6, .float .f64 z6] 24 ∧ Lp.Bk w' (b2) #[.float .f64 xf, .float .f64 yf, .float .f64 zf] 24 ∧ Cl w w') ⟨(by (repeat (refine Lp.Bk.seto ?_ (by dsimp only; omega) _)); exact BT), (by (repeat (refine Lp.Bk.seto ?_ (by dsimp only; omega) _)); exact BN), (by (repeat (refine Lp.Bk.seto ?_ (by dsimp only; omega) _)); exact BM), (by (repeat (refine Lp.Bk.seto ?_ (by dsimp only; omega) _)); exact BE), (by (repeat (refine Lp.Bk.seto ?_ (by dsimp only; omega) _)); exact BF), BP.set3, (by (repeat (refine Below.setCell ?_ (by dsimp only; omega) _)); exact HB)⟩ ?_
    clear kT kN kM kE kF kP zP nT0 mT0 nT1 mT1 nN0 mN0 nN1 mN1 nM0 mM0 nM1 mM1 nE0 mE0 nE1 mE1 nF0 mF0 nF1 mF1 nP0 mP0 nP1 mP1
    clear BT BN BM BE BF BP HB
    rintro v11 ⟨BT, BN, BM, BE, BF, BP, HB⟩
    have kT := BT.cell
    have kN := BN.cell
    have kM := BM.cell
    have kE := BE.cell
    have kF := BF.cell
    have kP := BP.cell
    have nT0 : (w.heap.size = v11.heap.size) = False := eq_false (by have := BT.lt; omega)
    have mT0 : w.heap.size < v11.heap.size := by have := BT.lt; omega
    have nT1 : (w.heap.size = v11.heap.size + 1) = False := eq_false (by have := BT.lt; omega)
    have mT1 : w.heap.size < v11.heap.size + 1 := by have := BT.lt; omega
    have nN0 : (v2.heap.size = v11.heap.size) = False := eq_false (by have := BN.lt; omega)
    have mN0 : v2.heap.size < v11.heap.size := by have := BN.lt; omega
    have nN1 : (v2.heap.size = v11.heap.size + 1) = False := eq_false (by have := BN.lt; omega)
    have mN1 : v2.heap.size < v11.heap.size + 1 := by have := BN.lt; omega
    have nM0 : (v5.heap.size = v11.heap.size) = False := eq_false (by have := BM.lt; omega)
    have mM0 : v5.heap.size < v11.heap.size := by have := BM.lt; omega
    have nM1 : (v5.heap.size = v11.heap.size + 1) = False := eq_false (by have := BM.lt; omega)
    have mM1 : v5.heap.size < v11.heap.size + 1 := by have := BM.lt; omega
    have nE0 : (v8.heap.size = v11.heap.size) = False := eq_false (by have := BE.lt; omega)
    have mE0 : v8.heap.size < v11.heap.size := by have := BE.lt; omega
    have nE1 : (v8.heap.size = v11.heap.size + 1) = False := eq_false (by have := BE.lt; omega)
    have mE1 : v8.heap.size < v11.heap.size + 1 := by have := BE.lt; omega
    have nF0 : (v8.heap.size + 1 = v11.heap.size) = False := eq_false (by have := BF.lt; omega)
    have mF0 : v8.heap.size + 1 < v11.heap.size := by have := BF.lt; omega
    have nF1 : (v8.heap.size = v11.heap.size) = False := eq_false (by have := BF.lt; omega)
    have mF1 : v8.heap.size < v11.heap.size := by have := BF.lt; omega
    have nP0 : (b2 = v11.heap.size) = False := eq_false (by have := BP.lt; omega)
    have mP0 : b2 < v11.heap.size := by have := BP.lt; omega
    have nP1 : (b2 = v11.heap.size + 1) = False := eq_false (by have := BP.lt; omega)
    have mP1 : b2 < v11.heap.size + 1 := by have := BP.lt; omega
    apply Lw.region _ _ 51 (by kernel_rfl) (by kernel_rfl) (by kernel_rfl) (Below.refl _ _)
    apply Lw.facts
    · intro w1 hw
      exact And.intro (BT.cl hw).cell (And.intro (BN.cl hw).cell (And.intro (BM.cl hw).cell (And.intro (BE.cl hw).cell (And.intro (BF.cl hw).cell ((BP.cl hw).cell)))))
    intro HF
    apply Lw.any rfl
    · intro w hw
      go_simp
      exact Lw.ret (awake_any _)
    intro K hK
    rintro v rfl
    go_simp
    refine hK.out _ ?_
    clear hK K
    iterate 3 (
      apply Lw.one ?_ rfl
      · intro w hw
        obtain ⟨k0, k1, k2, k3, k4, k5⟩ := HF.out _ hw
        go_simp
        exact rfl
      intro K hK
      go_simp
      refine hK.out _ ?_
      clear hK K)
    apply Lw.any rfl
    · intro w hw
      go_simp
      exact Lw.ret (ris_c h0 h2 _)
    intro K hK
    rintro v rfl
    go_simp
    refine hK.out _ ?_
    clear hK K
    iterate 8 (
      apply Lw.one ?_ rfl
      · intro w hw
        obtain ⟨k0, k1, k2, k3, k4, k5⟩ := HF.out _ hw
        go_simp
        exact rfl
      intro K hK
      go_simp
      refine hK.out _ ?_
      clear hK K)
    apply Lw.any rfl
    · intro w hw
      go_simp
      exact Lw.ret (HFl.out _)
    intro K hK
    rintro v rfl
    go_simp
    refine hK.out _ ?_
    clear hK K
    iterate 6 (
      apply Lw.one ?_ rfl
      · intro w hw
        obtain ⟨k0, k1, k2, k3, k4, k5⟩ := HF.out _ hw
        go_simp
        exact rfl
      intro K hK
      go_simp
      refine hK.out _ ?_
      clear hK K)
    apply Lw.any rfl
    · intro w hw
      go_simp
      exact Lw.ret (HQ.out _)
    intro K hK
    rintro v ⟨r, rfl, hr⟩
    go_simp
    refine hK.out _ ?_
    clear hK K
    iterate 1 (
      apply Lw.one ?_ rfl
      · intro w hw
        obtain ⟨k0, k1, k2, k3, k4, k5⟩ := HF.out _ hw
        go_simp
        exact rfl
      intro K hK
      go_simp
      refine hK.out _ ?_
      clear hK K)
    apply Lw.any rfl
    · intro w hw
      go_simp
      exact Lw.ret (rsame_c hr.sm ha _)
    intro K hK
    rintro v rfl
    go_simp
    refine hK.out _ ?_
    clear hK K
    iterate 7 (
      apply Lw.one ?_ rfl
      · intro w hw
        obtain ⟨k0, k1, k2, k3, k4, k5⟩ := HF.out _ hw
        go_simp
        exact rfl
      intro K hK
      go_simp
      refine hK.out _ ?_
      clear hK K)
    apply Lw.any rfl
    · intro w hw
      go_simp
      exact Lw.ret (rsub_c _ HS.out.2.1 HS.out.1)
    intro K hK
    rintro v ⟨xg, yg, zg, rfl, kg, wg⟩
    go_simp
    refine hK.out _ ?_
    clear hK K
    apply Lw.any rfl
    · intro w hw
      go_simp
      exact Lw.ret (ris_c h5 kg _)
    intro K hK
    rintro v rfl
    go_simp
    refine hK.out _ ?_
    clear hK K
    iterate 7 (
      apply Lw.one ?_ rfl
      · intro w hw
        obtain ⟨k0, k1, k2, k3, k4, k5⟩ := HF.out _ hw
        go_simp
        exact rfl
      intro K hK
      go_simp
      refine hK.out _ ?_
      clear hK K)
    apply Lw.any rfl
    · intro w hw
      go_simp
      exact Lw.ret (rsub_c _ HS.out.2.2 HS.out.1)
    intro K hK
    rintro v ⟨xh, yh, zh, rfl, kh, wh⟩
    go_simp
    refine hK.out _ ?_
    clear hK K
    apply Lw.any rfl
    · intro w hw
      go_simp
      exact Lw.ret (ris_c h6 kh _)
    intro K hK
    rintro v rfl
    go_simp
    refine hK.out _ ?_
    clear hK K
    iterate 5 (
      apply Lw.one ?_ rfl
      · intro w hw
        obtain ⟨k0, k1, k2, k3, k4, k5⟩ := HF.out _ hw
        go_simp
        exact rfl
      intro K hK
      go_simp
      refine hK.out _ ?_
      clear hK K)
    apply Lw.any rfl
    · intro w hw
      go_simp
      exact Lw.ret (HA.out _)
    intro K hK
    rintro v ⟨xi, yi, zi, rfl, ki, wi⟩
    go_simp
    refine hK.out _ ?_
    clear hK K
    iterate 1 (
      apply Lw.one ?_ rfl
      · intro w hw
        obtain ⟨k0, k1, k2, k3, k4, k5⟩ := HF.out _ hw
        go_simp
        exact rfl
      intro K hK
      go_simp
      refine hK.out _ ?_
      clear hK K)
    apply Lw.any rfl
    · intro w hw
      go_simp
      exact Lw.ret (ris_c ki kf _)
    intro K hK
    rintro v rfl
    go_simp
    refine hK.out _ ?_
    clear hK K
    iterate 2 (
      apply Lw.one ?_ rfl
      · intro w hw
        obtain ⟨k0, k1, k2, k3, k4, k5⟩ := HF.out _ hw
        go_simp
        exact rfl
      intro K hK
      go_simp
      refine hK.out _ ?_
      clear hK K)
    rotate_left
    exact []
    refine Lw.fin ?_
    intro v12 hm
    clear kT kN kM kE kF kP nT0 mT0 nT1 mT1 nN0 mN0 nN1 mN1 nM0 mM0 nM1 mM1 nE0 mE0 nE1 mE1 nF0 mF0 nF1 mF1 nP0 mP0 nP1 mP1
    replace BT := BT.keep hm
    replace BN := BN.keep hm
    replace BM := BM.keep hm
    replace BE := BE.keep hm
    replace BF := BF.keep hm
    replace BP := BP.keep hm
    replace HB := HB.call hm
    clear hm
    have kT := BT.cell
    have kN := BN.cell
    have kM := BM.cell
    have kE := BE.cell
    have kF := BF.cell
    have kP := BP.cell
    have nT0 : (w.heap.size = v12.heap.size) = False := eq_false (by have := BT.lt; omega)
    have mT0 : w.heap.size < v12.heap.size := by have := BT.lt; omega
    have nT1 : (w.heap.size = v12.heap.size + 1) = False := eq_false (by have := BT.lt; omega)
    have mT1 : w.heap.size < v12.heap.size + 1 := by have := BT.lt; omega
    have nN0 : (v2.heap.size = v12.heap.size) = False := eq_false (by have := BN.lt; omega)
    have mN0 : v2.heap.size < v12.heap.size := by have := BN.lt; omega
    have nN1 : (v2.heap.size = v12.heap.size + 1) = False := eq_false (by have := BN.lt; omega)
    have mN1 : v2.heap.size < v12.heap.size + 1 := by have := BN.lt; omega
    have nM0 : (v5.heap.size = v12.heap.size) = False := eq_false (by have := BM.lt; omega)
    have mM0 : v5.heap.size < v12.heap.size := by have := BM.lt; omega
    have nM1 : (v5.heap.size = v12.heap.size + 1) = False := eq_false (by have := BM.lt; omega)
    have mM1 : v5.heap.size < v12.heap.size + 1 := by have := BM.lt; omega
    have nE0 : (v8.heap.size = v12.heap.size) = False := eq_false (by have := BE.lt; omega)
    have mE0 : v8.heap.size < v12.heap.size := by have := BE.lt; omega
    have nE1 : (v8.heap.size = v12.heap.size + 1) = False := eq_false (by have := BE.lt; omega)
    have mE1 : v8.heap.size < v12.heap.size + 1 := by have := BE.lt; omega
    have nF0 : (v8.heap.size + 1 = v12.heap.size) = False := eq_false (by have := BF.lt; omega)
    have mF0 : v8.heap.size + 1 < v12.heap.size := by have := BF.lt; omega
    have nF1 : (v8.heap.size = v12.heap.size) = False := eq_false (by have := BF.lt; omega)
    have mF1 : v8.heap.size < v12.heap.size := by have := BF.lt; omega
    have nP0 : (b2 = v12.heap.size) = False := eq_false (by have := BP.lt; omega)
    have mP0 : b2 < v12.heap.size := by have := BP.lt; omega
    have nP1 : (b2 = v12.heap.size + 1) = False := eq_false (by have := BP.lt; omega)
    have mP1 : b2 < v12.heap.size + 1 := by have := BP.lt; omega
    go_wp2_with fail
    go_ret
    exact ⟨_, rfl, rfl, HB⟩

end Go.Proofs.Ytfeomlbfmbpmaaa

namespace Go.Proofs.Ytfeomlbfmbpmaaa.Fl
section
variable {H : Type} {enc : TypeId × Value → H} {P : Program} {w : World} {base : Nat} {spare : Nat → Bool} {held : Bool} {fuel : Nat} {t : TypeId} {cs : List Value} {x : DataW H × List MemPlace}
theorem trod_float {k : FloatKind} (ht : P.underlying t = some (.float k)) (h : DataW.trod enc P w base spare held fuel t cs = some x) : ∃ n, cs = [.float k n] ∧ x = (.lit (.float k n), []) ∧ (Lit.float k n).wf = true := by
  cases fuel with
  | zero => simp [DataW.trod] at h
  | succ n =>
    unfold DataW.trod at h
    rw [ht] at h
    split at h <;> simp_all
end
end Go.Proofs.Ytfeomlbfmbpmaaa.Fl
namespace Go.Proofs.Ytfeomlbfmbpmaaa
open Go.ChangeShapes Go.WideShapes Go.ChangeAt Go.RowKit Fl Go.Joins

theorem Try.own : ownKnob Try.prog.godebug = none := by kernel_rfl
theorem Try.laidOut : laidOutB Try.prog = true := by kernel_rfl

theorem Try.cells24 : Try.prog.cellsOf 24 = 3 := by kernel_rfl

theorem open_vec {H : Type} {enc : TypeId × Value → H} {W : World} {base : Nat} {spare : Nat → Bool} {held : Bool} {r : Reach} {b0 : Nat} {v : Value} {d : DataW H} {ps : List MemPlace} (hv : Value.okWide Try.prog W r b0 24 v) (h : DataW.Trod enc Try.prog W base spare held 24 v d ps) :
    ∃ x y z, v = .agg #[.float .f64 x, .float .f64 y, .float .f64 z] ∧ d = .agg [.lit (.float .f64 x), .lit (.float .f64 y), .lit (.float .f64 z)] ∧ ps = [] ∧
      (Lit.float .f64 x).wf = true ∧ (Lit.float .f64 y).wf = true ∧ (Lit.float .f64 z).wf = true := by
  obtain ⟨c0, c1, c2, y0, y1, y2, m, rfl, rfl, rfl, h0, h1, h2⟩ := open_agg3 Try.underlying24 (by kernel_rfl) Try.cells24 hv h
  obtain ⟨x, e0, rfl, wx⟩ := trod_float Try.underlying22 h0
  obtain ⟨y, e1, rfl, wy⟩ := trod_float Try.underlying22 h1
  obtain ⟨z, e2, rfl, wz⟩ := trod_float Try.underlying22 h2
  simp at e0 e1 e2
  subst e0 e1 e2
  exact ⟨x, y, z, rfl, rfl, rfl, wx, wy, wz⟩

theorem shut_vec {H : Type} {enc : TypeId × Value → H} {W : World} {base : Nat} {spare : Nat → Bool} {held : Bool} {x y z : Nat} (wx : (Lit.float .f64 x).wf = true) (wy : (Lit.float .f64 y).wf = true) (wz : (Lit.float .f64 z).wf = true) :
    DataW.Trod enc Try.prog W base spare held 24 (.agg #[.float .f64 x, .float .f64 y, .float .f64 z]) (.agg [.lit (.float .f64 x), .lit (.float .f64 y), .lit (.float .f64 z)]) [] :=
  shut_agg3 (y0 := (.lit (.float .f64 x), [])) (y1 := (.lit (.float .f64 y), [])) (y2 := (.lit (.float .f64 z), [])) Try.underlying24 (by kernel_rfl) Try.cells24
    ⟨1, by simp [DataW.trod, Try.underlying22, wx]⟩ ⟨1, by simp [DataW.trod, Try.underlying22, wy]⟩ ⟨1, by simp [DataW.trod, Try.underlying22, wz]⟩

end Go.Proofs.Ytfeomlbfmbpmaaa

namespace Go.Proofs.Ytfeomlbfmbpmaaa
open Go.ChangeShapes Go.WideShapes Go.ChangeAt Go.RowKit Fl Go.Joins Go.Deep

theorem array6 {α : Type} {cs : Array α} (h : cs.size = 6) : ∃ c0 c1 c2 c3 c4 c5, cs = #[c0, c1, c2, c3, c4, c5] := by
  obtain ⟨l⟩ := cs
  match l, h with
  | [c0, c1, c2, c3, c4, c5], _ => exact ⟨c0, c1, c2, c3, c4, c5, rfl⟩
theorem array9 {α : Type} {cs : Array α} (h : cs.size = 9) : ∃ c0 c1 c2 c3 c4 c5 c6 c7 c8, cs = #[c0, c1, c2, c3, c4, c5, c6, c7, c8] := by
  obtain ⟨l⟩ := cs
  match l, h with
  | [c0, c1, c2, c3, c4, c5, c6, c7, c8], _ => exact ⟨c0, c1, c2, c3, c4, c5, c6, c7, c8, rfl⟩
/-- Three words. -/
def Wf3 (x y z : Nat) : Prop := (Lit.float .f64 x).wf = true ∧ (Lit.float .f64 y).wf = true ∧ (Lit.float .f64 z).wf = true

theorem trod_vec {H : Type} {enc : TypeId × Value → H} {W : World} {base : Nat} {spare : Nat → Bool} {held : Bool} {n : Nat} {c0 c1 c2 : Value} {y : DataW H × List MemPlace} (h : DataW.trod enc Try.prog W base spare held n 24 [c0, c1, c2] = some y) :
    ∃ x y' z, c0 = .float .f64 x ∧ c1 = .float .f64 y' ∧ c2 = .float .f64 z ∧ y = (.agg [.lit (.float .f64 x), .lit (.float .f64 y'), .lit (.float .f64 z)], []) ∧ Wf3 x y' z := by
  obtain ⟨y0, y1, y2, m, hx, _, h0, h1, h2⟩ := trod_struct3 Try.underlying24 h
  have k : Try.prog.cellsOf 22 = 1 := by kernel_rfl
  simp only [k, List.drop_zero, List.drop_succ_cons, List.take_succ_cons, List.take_zero] at h0 h1 h2
  obtain ⟨x, e0, rfl, wx⟩ := trod_float Try.underlying22 h0
  obtain ⟨y', e1, rfl, wy⟩ := trod_float Try.underlying22 h1
  obtain ⟨z, e2, rfl, wz⟩ := trod_float Try.underlying22 h2
  simp at e0 e1 e2
  subst e0 e1 e2 hx
  exact ⟨x, y', z, rfl, rfl, rfl, rfl, wx, wy, wz⟩

theorem trod_vec_mk {H : Type} {enc : TypeId × Value → H} {W : World} {base : Nat} {spare : Nat → Bool} {held : Bool} {x y z : Nat} (h : Wf3 x y z) :
    DataW.trod enc Try.prog W base spare held 2 24 [.float .f64 x, .float .f64 y, .float .f64 z] = some (.agg [.lit (.float .f64 x), .lit (.float .f64 y), .lit (.float .f64 z)], []) := by
  have k : Try.prog.cellsOf 22 = 1 := by kernel_rfl
  refine trod_struct3_mk (n := 1) (y0 := (.lit (.float .f64 x), [])) (y1 := (.lit (.float .f64 y), [])) (y2 := (.lit (.float .f64 z), [])) Try.underlying24 (by rw [Try.cells24]; rfl) ?_ ?_ ?_ <;>
  simp only [k, List.drop_zero, List.drop_succ_cons, List.take_succ_cons, List.take_zero] <;> simp [DataW.trod, Try.underlying22, h.1, h.2.1, h.2.2]

theorem Try.cells39 : Try.prog.cellsOf 39 = 6 := by kernel_rfl

theorem open_box {H : Type} {enc : TypeId × Value → H} {W : World} {base : Nat} {spare : Nat → Bool} {held : Bool} {r : Reach} {b0 : Nat} {v : Value} {d : DataW H} {ps : List MemPlace} (hv : Value.okWide Try.prog W r b0 39 v) (h : DataW.Trod enc Try.prog W base spare held 39 v d ps) :
    ∃ x0 x1 x2 x3 x4 x5, v = .agg #[.float .f64 x0, .float .f64 x1, .float .f64 x2, .float .f64 x3, .float .f64 x4, .float .f64 x5] ∧ d = .agg [.agg [.lit (.float .f64 x0), .lit (.float .f64 x1), .lit (.float .f64 x2)], .agg [.lit (.float .f64 x3), .lit (.float .f64 x4), .lit (.float .f64 x5)]] ∧ ps = [] ∧ Wf3 x0 x1 x2 ∧ Wf3 x3 x4 x5 := by
  obtain ⟨cs, rfl, hsz⟩ := okWide_struct Try.underlying39 hv
  obtain ⟨c0, c1, c2, c3, c4, c5, rfl⟩ := array6 (hsz.trans Try.cells39)
  obtain ⟨fuel, hf⟩ := h
  obtain ⟨y0, y1, m, hx, _, h0, h1⟩ := trod_struct2 Try.underlying39 hf
  simp only [Value.cells, Try.cells24, List.drop_zero, List.drop_succ_cons, List.take_succ_cons, List.take_zero] at h0 h1
  obtain ⟨x0, x1, x2, rfl, rfl, rfl, rfl, w0⟩ := trod_vec h0
  obtain ⟨x3, x4, x5, rfl, rfl, rfl, rfl, w1⟩ := trod_vec h1
  simp only [Prod.mk.injEq] at hx
  exact ⟨x0, x1, x2, x3, x4, x5, rfl, hx.1, hx.2, w0, w1⟩

theorem shut_box {H : Type} {enc : TypeId × Value → H} {W : World} {base : Nat} {spare : Nat → Bool} {held : Bool} {x0 x1 x2 x3 x4 x5 : Nat} (w0 : Wf3 x0 x1 x2) (w1 : Wf3 x3 x4 x5) : DataW.Trod enc Try.prog W base spare held 39 (.agg #[.float .f64 x0, .float .f64 x1, .float .f64 x2, .float .f64 x3, .float .f64 x4, .float .f64 x5]) (.agg [.agg [.lit (.float .f64 x0), .lit (.float .f64 x1), .lit (.float .f64 x2)], .agg [.lit (.float .f64 x3), .lit (.float .f64 x4), .lit (.float .f64 x5)]]) [] := by
  refine ⟨3, ?_⟩
  refine trod_struct2_mk (n := 2) (y0 := (_, [])) (y1 := (_, [])) Try.underlying39 (by rw [Try.cells39]; rfl) ?_ ?_ <;>
  simp only [Value.cells, Try.cells24, List.drop_zero, List.drop_succ_cons, List.take_succ_cons, List.take_zero]
  · exact trod_vec_mk w0
  · exact trod_vec_mk w1

theorem Try.cells28 : Try.prog.cellsOf 28 = 6 := by kernel_rfl

theorem open_ray {H : Type} {enc : TypeId × Value → H} {W : World} {base : Nat} {spare : Nat → Bool} {held : Bool} {r : Reach} {b0 : Nat} {v : Value} {d : DataW H} {ps : List MemPlace} (hv : Value.okWide Try.prog W r b0 28 v) (h : DataW.Trod enc Try.prog W base spare held 28 v d ps) :
    ∃ x0 x1 x2 x3 x4 x5, v = .agg #[.float .f64 x0, .float .f64 x1, .float .f64 x2, .float .f64 x3, .float .f64 x4, .float .f64 x5] ∧ d = .agg [.agg [.lit (.float .f64 x0), .lit (.float .f64 x1), .lit (.float .f64 x2)], .agg [.lit (.float .f64 x3), .lit (.float .f64 x4), .lit (.float .f64 x5)]] ∧ ps = [] ∧ Wf3 x0 x1 x2 ∧ Wf3 x3 x4 x5 := by
  obtain ⟨cs, rfl, hsz⟩ := okWide_struct Try.underlying28 hv
  obtain ⟨c0, c1, c2, c3, c4, c5, rfl⟩ := array6 (hsz.trans Try.cells28)
  obtain ⟨fuel, hf⟩ := h
  obtain ⟨y0, y1, m, hx, _, h0, h1⟩ := trod_struct2 Try.underlying28 hf
  simp only [Value.cells, Try.cells24, List.drop_zero, List.drop_succ_cons, List.take_succ_cons, List.take_zero] at h0 h1
  obtain ⟨x0, x1, x2, rfl, rfl, rfl, rfl, w0⟩ := trod_vec h0
  obtain ⟨x3, x4, x5, rfl, rfl, rfl, rfl, w1⟩ := trod_vec h1
  simp only [Prod.mk.injEq] at hx
  exact ⟨x0, x1, x2, x3, x4, x5, rfl, hx.1, hx.2, w0, w1⟩

theorem shut_ray {H : Type} {enc : TypeId × Value → H} {W : World} {base : Nat} {spare : Nat → Bool} {held : Bool} {x0 x1 x2 x3 x4 x5 : Nat} (w0 : Wf3 x0 x1 x2) (w1 : Wf3 x3 x4 x5) : DataW.Trod enc Try.prog W base spare held 28 (.agg #[.float .f64 x0, .float .f64 x1, .float .f64 x2, .float .f64 x3, .float .f64 x4, .float .f64 x5]) (.agg [.agg [.lit (.float .f64 x0), .lit (.float .f64 x1), .lit (.float .f64 x2)], .agg [.lit (.float .f64 x3), .lit (.float .f64 x4), .lit (.float .f64 x5)]]) [] := by
  refine ⟨3, ?_⟩
  refine trod_struct2_mk (n := 2) (y0 := (_, [])) (y1 := (_, [])) Try.underlying28 (by rw [Try.cells28]; rfl) ?_ ?_ <;>
  simp only [Value.cells, Try.cells24, List.drop_zero, List.drop_succ_cons, List.take_succ_cons, List.take_zero]
  · exact trod_vec_mk w0
  · exact trod_vec_mk w1

theorem Try.cells26 : Try.prog.cellsOf 26 = 9 := by kernel_rfl

theorem open_tri {H : Type} {enc : TypeId × Value → H} {W : World} {base : Nat} {spare : Nat → Bool} {held : Bool} {r : Reach} {b0 : Nat} {v : Value} {d : DataW H} {ps : List MemPlace} (hv : Value.okWide Try.prog W r b0 26 v) (h : DataW.Trod enc Try.prog W base spare held 26 v d ps) :
    ∃ x0 x1 x2 x3 x4 x5 x6 x7 x8, v = .agg #[.float .f64 x0, .float .f64 x1, .float .f64 x2, .float .f64 x3, .float .f64 x4, .float .f64 x5, .float .f64 x6, .float .f64 x7, .float .f64 x8] ∧ d = .agg [.agg [.lit (.float .f64 x0), .lit (.float .f64 x1), .lit (.float .f64 x2)], .agg [.lit (.float .f64 x3), .lit (.float .f64 x4), .lit (.float .f64 x5)], .agg [.lit (.float .f64 x6), .lit (.float .f64 x7), .lit (.float .f64 x8)]] ∧ ps = [] ∧ Wf3 x0 x1 x2 ∧ Wf3 x3 x4 x5 ∧ Wf3 x6 x7 x8 := by
  obtain ⟨cs, rfl, hsz⟩ := okWide_struct Try.underlying26 hv
  obtain ⟨c0, c1, c2, c3, c4, c5, c6, c7, c8, rfl⟩ := array9 (hsz.trans Try.cells26)
  obtain ⟨fuel, hf⟩ := h
  obtain ⟨y0, y1, y2, m, hx, _, h0, h1, h2⟩ := trod_struct3 Try.underlying26 hf
  simp only [Value.cells, Try.cells24, List.drop_zero, List.drop_succ_cons, List.take_succ_cons, List.take_zero] at h0 h1 h2
  obtain ⟨x0, x1, x2, rfl, rfl, rfl, rfl, w0⟩ := trod_vec h0
  obtain ⟨x3, x4, x5, rfl, rfl, rfl, rfl, w1⟩ := trod_vec h1
  obtain ⟨x6, x7, x8, rfl, rfl, rfl, rfl, w2⟩ := trod_vec h2
  simp only [Prod.mk.injEq] at hx
  exact ⟨x0, x1, x2, x3, x4, x5, x6, x7, x8, rfl, hx.1, hx.2, w0, w1, w2⟩

theorem shut_tri {H : Type} {enc : TypeId × Value → H} {W : World} {base : Nat} {spare : Nat → Bool} {held : Bool} {x0 x1 x2 x3 x4 x5 x6 x7 x8 : Nat} (w0 : Wf3 x0 x1 x2) (w1 : Wf3 x3 x4 x5) (w2 : Wf3 x6 x7 x8) : DataW.Trod enc Try.prog W base spare held 26 (.agg #[.float .f64 x0, .float .f64 x1, .float .f64 x2, .float .f64 x3, .float .f64 x4, .float .f64 x5, .float .f64 x6, .float .f64 x7, .float .f64 x8]) (.agg [.agg [.lit (.float .f64 x0), .lit (.float .f64 x1), .lit (.float .f64 x2)], .agg [.lit (.float .f64 x3), .lit (.float .f64 x4), .lit (.float .f64 x5)], .agg [.lit (.float .f64 x6), .lit (.float .f64 x7), .lit (.float .f64 x8)]]) [] := by
  refine ⟨3, ?_⟩
  refine trod_struct3_mk (n := 2) (y0 := (_, [])) (y1 := (_, [])) (y2 := (_, [])) Try.underlying26 (by rw [Try.cells26]; rfl) ?_ ?_ ?_ <;>
  simp only [Value.cells, Try.cells24, List.drop_zero, List.drop_succ_cons, List.take_succ_cons, List.take_zero]
  · exact trod_vec_mk w0
  · exact trod_vec_mk w1
  · exact trod_vec_mk w2

end Go.Proofs.Ytfeomlbfmbpmaaa
