/- What must come at any rate. The walk of AreaSolid. A vector that comes in, opened and shut. Structs of two and of three vectors that come in, opened and shut. -/
import Derived.ProofKit
import Derived.Lib.SmallJoins
import Derived.Test.YtjcdmdjkolmliaaRows
import Derived.Test.YtjcdmdjkolmliaaG11
import Derived.Test.YtjcdmdjkolmliaaG7
import Derived.Test.YtjcdmdjkolmliaaG4
namespace Go.Proofs.Ytjcdmdjkolmliaa
open Go.RowKit Fl

theorem S3.exactly {x y z : Nat} {P : V3} (h : S3 x y z P) (hx : isN P.x = false) (hy : isN P.y = false) (hz : isN P.z = false) : x = P.x ∧ y = P.y ∧ z = P.z := ⟨(h.x.symm.eq hx).symm, (h.y.symm.eq hy).symm, (h.z.symm.eq hz).symm⟩
theorem feq_self {x : Nat} (h : isN x = false) : Op.floatEq .f64 x x = true := by
  show (ford x x == some .eq) = true
  rw [ford_refl h]; rfl
theorem am1 : densA ((V3.sub ⟨4607182418800017408, 0, 0⟩ ⟨0, 0, 0⟩).cross (V3.sub ⟨0, 4607182418800017408, 0⟩ ⟨0, 0, 0⟩)) = 4611686018427387904 := by kernel_rfl
theorem am2 : cosA (V3.sub ⟨0, 0, 0⟩ ⟨0, 0, 4611686018427387904⟩) ((V3.sub ⟨4607182418800017408, 0, 0⟩ ⟨0, 0, 0⟩).cross (V3.sub ⟨0, 4607182418800017408, 0⟩ ⟨0, 0, 0⟩)) = 4607182418800017408 := by kernel_rfl
theorem am3 : solA (V3.sub ⟨0, 0, 0⟩ ⟨0, 0, 4611686018427387904⟩) ((V3.sub ⟨4607182418800017408, 0, 0⟩ ⟨0, 0, 0⟩).cross (V3.sub ⟨0, 4607182418800017408, 0⟩ ⟨0, 0, 0⟩)) = 4620693217682128896 := by kernel_rfl
theorem am4 : gtC (V3.dot (V3.unit ((V3.sub ⟨4607182418800017408, 0, 0⟩ ⟨0, 0, 0⟩).cross (V3.sub ⟨0, 4607182418800017408, 0⟩ ⟨0, 0, 0⟩))) (V3.sub ⟨0, 0, 4611686018427387904⟩ ⟨0, 0, 0⟩)) 0 = true := by kernel_rfl
theorem am5 : V3.add (V3.add ⟨0, 0, 0⟩ (V3.scale (V3.sub ⟨4607182418800017408, 0, 0⟩ ⟨0, 0, 0⟩) (pU 0 4602678819172646912))) (V3.scale (V3.sub ⟨0, 4607182418800017408, 0⟩ ⟨0, 0, 0⟩) (pV 0 4602678819172646912)) = ⟨0, 0, 0⟩ := by kernel_rfl
theorem num_k0 : isN 0 = false := by decide +kernel
theorem num_k1 : isN 4607182418800017408 = false := by decide +kernel
theorem num_k2 : isN 4611686018427387904 = false := by decide +kernel
theorem num_k3 : isN 4620693217682128896 = false := by decide +kernel
theorem seq0 : (FloatKind.f64.format.order 0 0 == some .eq) = true := by decide +kernel
theorem seq1 : (FloatKind.f64.format.order 4607182418800017408 4607182418800017408 == some .eq) = true := by decide +kernel
theorem seq2 : (FloatKind.f64.format.order 4611686018427387904 4611686018427387904 == some .eq) = true := by decide +kernel
theorem seq3 : (FloatKind.f64.format.order 4620693217682128896 4620693217682128896 == some .eq) = true := by decide +kernel
theorem aw_dens (w : World) : Ret Try.prog 14 #[.agg #[.float .f64 0, .float .f64 0, .float .f64 0, .float .f64 4607182418800017408, .float .f64 0, .float .f64 0, .float .f64 0, .float .f64 4607182418800017408, .float .f64 0]] w (fun v => v = .float .f64 4611686018427387904) :=
  (density_any (S3.refl 0 0 0) (S3.refl 4607182418800017408 0 0) (S3.refl 0 4607182418800017408 0) w).mono fun v ⟨r, e, hr⟩ => by
    have hr' : Eqv r 4611686018427387904 := by rw [← am1]; exact hr
    rw [e, (hr'.sm.symm.eq num_k2).symm]

theorem aw_cos (w : World) : Ret Try.prog 21 #[.agg #[.float .f64 0, .float .f64 0, .float .f64 0, .float .f64 4607182418800017408, .float .f64 0, .float .f64 0, .float .f64 0, .float .f64 4607182418800017408, .float .f64 0], .agg #[.float .f64 0, .float .f64 0, .float .f64 4611686018427387904], .agg #[.float .f64 0, .float .f64 0, .float .f64 0]] w (fun v => v = .float .f64 4607182418800017408) :=
  (cosine_any (S3.refl 0 0 0) (S3.refl 4607182418800017408 0 0) (S3.refl 0 4607182418800017408 0) (S3.refl 0 0 4611686018427387904) (S3.refl 0 0 0) w).mono fun v ⟨r, e, hr⟩ => by
    have hr' : Eqv r 4607182418800017408 := by rw [← am2]; exact hr
    rw [e, (hr'.sm.symm.eq num_k1).symm]

theorem aw_sol (w : World) : Ret Try.prog 20 #[.agg #[.float .f64 0, .float .f64 0, .float .f64 0, .float .f64 4607182418800017408, .float .f64 0, .float .f64 0, .float .f64 0, .float .f64 4607182418800017408, .float .f64 0], .agg #[.float .f64 0, .float .f64 0, .float .f64 4611686018427387904], .agg #[.float .f64 0, .float .f64 0, .float .f64 0]] w (fun v => v = .float .f64 4620693217682128896) :=
  (solid_any (S3.refl 0 0 0) (S3.refl 4607182418800017408 0 0) (S3.refl 0 4607182418800017408 0) (S3.refl 0 0 4611686018427387904) (S3.refl 0 0 0) w).mono fun v ⟨r, e, hr⟩ => by
    have hr' : Eqv r 4620693217682128896 := by rw [← am3]; exact hr
    rw [e, (hr'.sm.symm.eq num_k3).symm]

theorem aw_front (w : World) : Ret Try.prog 26 #[.agg #[.float .f64 0, .float .f64 0, .float .f64 0, .float .f64 4607182418800017408, .float .f64 0, .float .f64 0, .float .f64 0, .float .f64 4607182418800017408, .float .f64 0], .agg #[.float .f64 0, .float .f64 0, .float .f64 4611686018427387904]] w (fun v => v = .bool true) :=
  (front_any (S3.refl 0 0 0) (S3.refl 4607182418800017408 0 0) (S3.refl 0 4607182418800017408 0) (S3.refl 0 0 4611686018427387904) w).mono fun v e => by rw [e]; exact congrArg Value.bool am4

theorem aw_point (w : World) : Ret Try.prog 13 #[.agg #[.float .f64 0, .float .f64 0, .float .f64 0, .float .f64 4607182418800017408, .float .f64 0, .float .f64 0, .float .f64 0, .float .f64 4607182418800017408, .float .f64 0], .float .f64 0, .float .f64 4602678819172646912] w (fun v => v = .agg #[.float .f64 0, .float .f64 0, .float .f64 0]) :=
  (point_any (u := 0) (v := 4602678819172646912) (S3.refl 0 0 0) (S3.refl 4607182418800017408 0 0) (S3.refl 0 4607182418800017408 0) w).mono fun v ⟨x, y, z, e, hs, _⟩ => by
    have hs' : S3 x y z ⟨0, 0, 0⟩ := by rw [← am5]; exact hs
    obtain ⟨e1, e2, e3⟩ := hs'.exactly num_k0 num_k0 num_k0
    rw [e, e1, e2, e3]

set_option maxRecDepth 100000 in
set_option maxHeartbeats 1000000 in
theorem awake_any  (w : World) : Ret Try.prog 11 #[] w (fun v => v = .bool true) := by
  unfold Ret
  have HB : Cl w w := Below.refl _ _
  have q0 := seq0
  have q1 := seq1
  have q2 := seq2
  have q3 := seq3
  have o0 := feq_self num_k0
  go_enter Try.func11, Try.ntmps11
  go_wp2_with fail
  refine Lp.settle (fun w' => Lp.Bk w' (w.heap.size) #[.float .f64 0, .float .f64 0, .float .f64 0, .float .f64 4607182418800017408, .float .f64 0, .float .f64 0, .float .f64 0, .float .f64 4607182418800017408, .float .f64 0] 26 ∧ Lp.Bk w' (w.heap.size + 1) #[.float .f64 0, .float .f64 0, .float .f64 4611686018427387904] 24 ∧ Cl w w') ⟨(Lp.Bk.al _ _ _).alo _, Lp.Bk.al1 _ _ _ _, ((HB).alloc _).alloc _⟩ ?_
  clear HB
  rintro v1 ⟨BT, BF, HB⟩
  have kT := BT.cell
  have kF := BF.cell
  have nT0 : (w.heap.size = v1.heap.size) = False := eq_false (by have := BT.lt; omega)
  have mT0 : w.heap.size < v1.heap.size := by have := BT.lt; omega
  have nT1 : (w.heap.size = v1.heap.size + 1) = False := eq_false (by have := BT.lt; omega)
  have mT1 : w.heap.size < v1.heap.size + 1 := by have := BT.lt; omega
  have nF0 : (w.heap.size + 1 = v1.heap.size) = False := eq_false (by have := BF.lt; omega)
  have mF0 : w.heap.size + 1 < v1.heap.size := by have := BF.lt; omega
  have nF1 : (w.heap.size = v1.heap.size) = False := eq_false (by have := BF.lt; omega)
  have mF1 : w.heap.size < v1.heap.size := by have := BF.lt; omega
  apply Lw.region _ _ 30 (by kernel_rfl) (by kernel_rfl) (by kernel_rfl) (Below.refl _ _)
  apply Lw.facts
  · intro w1 hw
    exact And.intro (BT.cl hw).cell ((BF.cl hw).cell)
  intro HF
  iterate 1 (
    apply Lw.one ?_ rfl
    · intro w hw
      obtain ⟨k0, k1⟩ := HF.out _ hw
      go_simp
      exact rfl
    intro K hK
    go_simp
    refine hK.out _ ?_
    clear hK K)
  apply Lw.any rfl
  · intro w hw
    go_simp
    exact Lw.ret (aw_dens _)
  intro K hK
  rintro v rfl
  go_simp
  refine hK.out _ ?_
  clear hK K
  iterate 5 (
    apply Lw.one ?_ rfl
    · intro w hw
      obtain ⟨k0, k1⟩ := HF.out _ hw
      go_simp
      exact rfl
    intro K hK
    go_simp
    refine hK.out _ ?_
    clear hK K)
  apply Lw.any rfl
  · intro w hw
    go_simp
    exact Lw.ret (aw_cos _)
  intro K hK
  rintro v rfl
  go_simp
  refine hK.out _ ?_
  clear hK K
  iterate 6 (
    apply Lw.one ?_ rfl
    · intro w hw
      obtain ⟨k0, k1⟩ := HF.out _ hw
      go_simp
      exact rfl
    intro K hK
    go_simp
    refine hK.out _ ?_
    clear hK K)
  apply Lw.any rfl
  · intro w hw
    go_simp
    exact Lw.ret (aw_sol _)
  intro K hK
  rintro v rfl
  go_simp
  refine hK.out _ ?_
  clear hK K
  iterate 5 (
    apply Lw.one ?_ rfl
    · intro w hw
      obtain ⟨k0, k1⟩ := HF.out _ hw
      go_simp
      exact rfl
    intro K hK
    go_simp
    refine hK.out _ ?_
    clear hK K)
  apply Lw.any rfl
  · intro w hw
    go_simp
    exact Lw.ret (aw_front _)
  intro K hK
  rintro v rfl
  go_simp
  refine hK.out _ ?_
  clear hK K
  iterate 3 (
    apply Lw.one ?_ rfl
    · intro w hw
      obtain ⟨k0, k1⟩ := HF.out _ hw
      go_simp
      exact rfl
    intro K hK
    go_simp
    refine hK.out _ ?_
    clear hK K)
  apply Lw.any rfl
  · intro w hw
    go_simp
    exact Lw.ret (aw_point _)
  intro K hK
  rintro v rfl
  go_simp
  refine hK.out _ ?_
  clear hK K
  iterate 5 (
    apply Lw.one ?_ rfl
    · intro w hw
      obtain ⟨k0, k1⟩ := HF.out _ hw
      go_simp
      exact rfl
    intro K hK
    go_simp
    refine hK.out _ ?_
    clear hK K)
  rotate_left
  exact []
  refine Lw.fin ?_
  intro v2 hm
  clear kT kF nT0 mT0 nT1 mT1 nF0 mF0 nF1 mF1
  replace BT := BT.keep hm
  replace BF := BF.keep hm
  replace HB := HB.call hm
  clear hm
  have kT := BT.cell
  have kF := BF.cell
  have nT0 : (w.heap.size = v2.heap.size) = False := eq_false (by have := BT.lt; omega)
  have mT0 : w.heap.size < v2.heap.size := by have := BT.lt; omega
  have nT1 : (w.heap.size = v2.heap.size + 1) = False := eq_false (by have := BT.lt; omega)
  have mT1 : w.heap.size < v2.heap.size + 1 := by have := BT.lt; omega
  have nF0 : (w.heap.size + 1 = v2.heap.size) = False := eq_false (by have := BF.lt; omega)
  have mF0 : w.heap.size + 1 < v2.heap.size := by have := BF.lt; omega
  have nF1 : (w.heap.size = v2.heap.size) = False := eq_false (by have := BF.lt; omega)
  have mF1 : w.heap.size < v2.heap.size := by have := BF.lt; omega
  go_wp2_with fail
  go_ret
  exact ⟨_, rfl, rfl, HB⟩

end Go.Proofs.Ytjcdmdjkolmliaa

namespace Go.Proofs.Ytjcdmdjkolmliaa
open Go.RowKit Fl

theorem eqv_ge {s S : Nat} (h : Eqv s S) (k : geB S 0 = true) : (FloatKind.f64.format.order s 0 == some .gt || FloatKind.f64.format.order s 0 == some .eq) = true := by rw [ge_w h.sm (Sm.refl 0)]; exact k
theorem eqv_eq {s r S : Nat} (h : Eqv s S) (k : Eqv r S) (n : numB S = true) : (FloatKind.f64.format.order s r == some .eq) = true := by
  have e : ford s r = ford S S := ford_congr h.sm k.sm
  show (ford s r == some .eq) = true
  rw [e, ford_refl (not_nan_num (num_of_fin n))]; rfl

set_option maxRecDepth 100000 in
set_option maxHeartbeats 2000000 in
theorem solids_walk (A B C F G : V3) (w : World) : Ret Try.prog 4 #[.agg #[.float .f64 A.x, .float .f64 A.y, .float .f64 A.z, .float .f64 B.x, .float .f64 B.y, .float .f64 B.z, .float .f64 C.x, .float .f64 C.y, .float .f64 C.z], .agg #[.float .f64 F.x, .float .f64 F.y, .float .f64 F.z], .agg #[.float .f64 G.x, .float .f64 G.y, .float .f64 G.z]] w (fun v => v = .bool true) := by
  unfold Ret
  have HL := hid (fun w => look_any F.self G.self w)
  have HS := hid (fun w => rsub_c w G.self F.self)
  have HU := hid (fun (x y z : Nat) (h : S3 x y z (G.sub F)) w => runit_c w h)
  have HX := hid (fun w => solid_any A.self B.self C.self F.self G.self w)
  have HC := hid (fun w => cosine_any A.self B.self C.self F.self G.self w)
  have HD := hid (fun w => rcos_any A.self B.self C.self F.self G.self w)
  have HR := hid (fun w => rsol_any A.self B.self C.self F.self G.self w)
  obtain ⟨q1, q2⟩ := quot_ge (y := cosA (G.sub F) ((B.sub A).cross (C.sub A))) (nz_prod (G.sub F) ((B.sub A).cross (C.sub A)))
  have HQ := hid (show numB (solA (G.sub F) ((B.sub A).cross (C.sub A))) = true from q1)
  have HG := hid (fun s (h : Eqv s (solA (G.sub F) ((B.sub A).cross (C.sub A)))) => eqv_ge h q2)
  have HE := hid (fun s r (h : Eqv s (solA (G.sub F) ((B.sub A).cross (C.sub A)))) (k : Eqv r (solA (G.sub F) ((B.sub A).cross (C.sub A)))) => eqv_eq h k q1)
  have HM := hid (fun s (h : Eqv s (solA (G.sub F) ((B.sub A).cross (C.sub A)))) w => (rnumber_c s w).mono fun v e => show v = .bool true by rw [e, numB_congr h.sm]; exact congrArg Value.bool q1)
  clear q1 q2 HQ
  generalize solA (G.sub F) ((B.sub A).cross (C.sub A)) = S at *
  generalize cosA (G.sub F) ((B.sub A).cross (C.sub A)) = K at *
  generalize (G.sub F) = D at *
  unfold isL at HL
  unfold isU at HU
  generalize D.ok = b at *
  have HB : Cl w w := Below.refl _ _
  cases b
  all_goals
    go_enter Try.func4, Try.ntmps4
    go_wp2_with fail
    refine Lp.settleC (fun w' => Lp.Bk w' (w.heap.size) #[.float .f64 A.x, .float .f64 A.y, .float .f64 A.z, .float .f64 B.x, .float .f64 B.y, .float .f64 B.z, .float .f64 C.x, .float .f64 C.y, .float .f64 C.z] 26 ∧ Lp.Bk w' (w.heap.size + 1) #[.float .f64 F.x, .float .f64 F.y, .float .f64 F.z] 24 ∧ Lp.Bk w' (w.heap.size + 1 + 1) #[.float .f64 G.x, .float .f64 G.y, .float .f64 G.z] 24 ∧ Cl w w') ⟨((Lp.Bk.al _ _ _).alo _).alo _, (Lp.Bk.al1 _ _ _ _).alo _, Lp.Bk.al2 _ _ _ _ _, (((HB).alloc _).alloc _).alloc _⟩ ?_
    clear HB
    rintro v1 ⟨BT, BF, BG, HB⟩
    have kT := BT.cell
    have kF := BF.cell
    have kG := BG.cell
    have nT0 : (w.heap.size = v1.heap.size) = False := eq_false (by have := BT.lt; omega)
    have mT0 : w.heap.size < v1.heap.size := by have := BT.lt; omega
    have nT1 : (w.heap.size = v1.heap.size + 1) = False := eq_false (by have := BT.lt; omega)
    have mT1 : w.heap.size < v1.heap.size + 1 := by have := BT.lt; omega
    have nF0 : (w.heap.size + 1 = v1.heap.size) = False := eq_false (by have := BF.lt; omega)
    have mF0 : w.heap.size + 1 < v1.heap.size := by have := BF.lt; omega
    have nF1 : (w.heap.size = v1.heap.size) = False := eq_false (by have := BF.lt; omega)
    have mF1 : w.heap.size < v1.heap.size := by have := BF.lt; omega
    have nG0 : (w.heap.size + 1 + 1 = v1.heap.size) = False := eq_false (by have := BG.lt; omega)
    have mG0 : w.heap.size + 1 + 1 < v1.heap.size := by have := BG.lt; omega
    have nG1 : (w.heap.size + 1 = v1.heap.size) = False := eq_false (by have := BG.lt; omega)
    have mG1 : w.heap.size + 1 < v1.heap.size := by have := BG.lt; omega
    refine Calls.mono (HL.out _) ?_
    rintro e v2 ⟨v, rfl, ⟨x, y, z, n, rfl, ⟨hx, wx⟩, hn⟩, hm⟩
    clear kT kF kG nT0 mT0 nT1 mT1 nF0 mF0 nF1 mF1 nG0 mG0 nG1 mG1
    replace BT := BT.keep hm
    replace BF := BF.keep hm
    replace BG := BG.keep hm
    replace HB := HB.call hm
    clear hm
    have kT := BT.cell
    have kF := BF.cell
    have kG := BG.cell
    have nT0 : (w.heap.size = v2.heap.size) = False := eq_false (by have := BT.lt; omega)
    have mT0 : w.heap.size < v2.heap.size := by have := BT.lt; omega
    have nT1 : (w.heap.size = v2.heap.size + 1) = False := eq_false (by have := BT.lt; omega)
    have mT1 : w.heap.size < v2.heap.size + 1 := by have := BT.lt; omega
    have nF0 : (w.heap.size + 1 = v2.heap.size) = False := eq_false (by have := BF.lt; omega)
    have mF0 : w.heap.size + 1 < v2.heap.size := by have := BF.lt; omega
    have nF1 : (w.heap.size = v2.heap.size) = False := eq_false (by have := BF.lt; omega)
    have mF1 : w.heap.size < v2.heap.size := by have := BF.lt; omega
    have nG0 : (w.heap.size + 1 + 1 = v2.heap.size) = False := eq_false (by have := BG.lt; omega)
    have mG0 : w.heap.size + 1 + 1 < v2.heap.size := by have := BG.lt; omega
    have nG1 : (w.heap.size + 1 = v2.heap.size) = False := eq_false (by have := BG.lt; omega)
    have mG1 : w.heap.size + 1 < v2.heap.size := by have := BG.lt; omega
    go_wp2_with fail
    refine Lp.settleC (fun w' => Lp.Bk w' (w.heap.size) #[.float .f64 A.x, .float .f64 A.y, .float .f64 A.z, .float .f64 B.x, .float .f64 B.y, .float .f64 B.z, .float .f64 C.x, .float .f64 C.y, .float .f64 C.z] 26 ∧ Lp.Bk w' (w.heap.size + 1) #[.float .f64 F.x, .float .f64 F.y, .float .f64 F.z] 24 ∧ Lp.Bk w' (w.heap.size + 1 + 1) #[.float .f64 G.x, .float .f64 G.y, .float .f64 G.z] 24 ∧ Lp.Bk w' (v2.heap.size) #[.float .f64 x, .float .f64 y, .float .f64 z] 24 ∧ Cl w w') ⟨(BT).alo _, (BF).alo _, (BG).alo _, Lp.Bk.al _ _ _, (HB).alloc _⟩ ?_
    clear kT kF kG nT0 mT0 nT1 mT1 nF0 mF0 nF1 mF1 nG0 mG0 nG1 mG1
    clear BT BF BG HB
    rintro v3 ⟨BT, BF, BG, BD, HB⟩
    have kT := BT.cell
    have kF := BF.cell
    have kG := BG.cell
    have kD := BD.cell
    have nT0 : (w.heap.size = v3.heap.size) = False := eq_false (by have := BT.lt; omega)
    have mT0 : w.heap.size < v3.heap.size := by have := BT.lt; omega
    have nT1 : (w.heap.size = v3.heap.size + 1) = False := eq_false (by have := BT.lt; omega)
    have mT1 : w.heap.size < v3.heap.size + 1 := by have := BT.lt; omega
    have nF0 : (w.heap.size + 1 = v3.heap.size) = False := eq_false (by have := BF.lt; omega)
    have mF0 : w.heap.size + 1 < v3.heap.size := by have := BF.lt; omega
    have nF1 : (w.heap.size = v3.heap.size) = False := eq_false (by have := BF.lt; omega)
    have mF1 : w.heap.size < v3.heap.size := by have := BF.lt; omega
    have nG0 : (w.heap.size + 1 + 1 = v3.heap.size) = False := eq_false (by have := BG.lt; omega)
    have mG0 : w.heap.size + 1 + 1 < v3.heap.size := by have := BG.lt; omega
    have nG1 : (w.heap.size + 1 = v3.heap.size) = False := eq_false (by have := BG.lt; omega)
    have mG1 : w.heap.size + 1 < v3.heap.size := by have := BG.lt; omega
    have nD0 : (v2.heap.size = v3.heap.size) = False := eq_false (by have := BD.lt; omega)
    have mD0 : v2.heap.size < v3.heap.size := by have := BD.lt; omega
    have nD1 : (v2.heap.size = v3.heap.size + 1) = False := eq_false (by have := BD.lt; omega)
    have mD1 : v2.heap.size < v3.heap.size + 1 := by have := BD.lt; omega
    refine Calls.mono (HS.out _) ?_
    rintro e v4 ⟨v, rfl, ⟨x1, y1, z1, rfl, h1, w1⟩, hm⟩
    clear kT kF kG kD nT0 mT0 nT1 mT1 nF0 mF0 nF1 mF1 nG0 mG0 nG1 mG1 nD0 mD0 nD1 mD1
    replace BT := BT.keep hm
    replace BF := BF.keep hm
    replace BG := BG.keep hm
    replace BD := BD.keep hm
    replace HB := HB.call hm
    clear hm
    have kT := BT.cell
    have kF := BF.cell
    have kG := BG.cell
    have kD := BD.cell
    have nT0 : (w.heap.size = v4.heap.size) = False := eq_false (by have := BT.lt; omega)
    have mT0 : w.heap.size < v4.heap.size := by have := BT.lt; omega
    have nT1 : (w.heap.size = v4.heap.size + 1) = False := eq_false (by have := BT.lt; omega)
    have mT1 : w.heap.size < v4.heap.size + 1 := by have := BT.lt; omega
    have nF0 : (w.heap.size + 1 = v4.heap.size) = False := eq_false (by have := BF.lt; omega)
    have mF0 : w.heap.size + 1 < v4.heap.size := by have := BF.lt; omega
    have nF1 : (w.heap.size = v4.heap.size) = False := eq_false (by have := BF.lt; omega)
    have mF1 : w.heap.size < v4.heap.size := by have := BF.lt; omega
    have nG0 : (w.heap.size + 1 + 1 = v4.heap.size) = False := eq_false (by have := BG.lt; omega)
    have mG0 : w.heap.size + 1 + 1 < v4.heap.size := by have := BG.lt; omega
    have nG1 : (w.heap.size + 1 = v4.heap.size) = False := eq_false (by have := BG.lt; omega)
    have mG1 : w.heap.size + 1 < v4.heap.size := by have := BG.lt; omega
    have nD0 : (v2.heap.size = v4.heap.size) = False := eq_false (by have := BD.lt; omega)
    have mD0 : v2.heap.size < v4.heap.size := by have := BD.lt; omega
    have nD1 : (v2.heap.size = v4.heap.size + 1) = False := eq_false (by have := BD.lt; omega)
    have mD1 : v2.heap.size < v4.heap.size + 1 := by have := BD.lt; omega
    go_wp2_with fail
    refine Lp.settleC (fun w' => Lp.Bk w' (w.heap.size) #[.float .f64 A.x, .float .f64 A.y, .float .f64 A.z, .float .f64 B.x, .float .f64 B.y, .float .f64 B.z, .float .f64 C.x, .float .f64 C.y, .float .f64 C.z] 26 ∧ Lp.Bk w' (w.heap.size + 1) #[.float .f64 F.x, .float .f64 F.y, .float .f64 F.z] 24 ∧ Lp.Bk w' (w.heap.size + 1 + 1) #[.float .f64 G.x, .float .f64 G.y, .float .f64 G.z] 24 ∧ Lp.Bk w' (v2.heap.size) #[.float .f64 x, .float .f64 y, .float .f64 z] 24 ∧ Lp.Bk w' (v4.heap.size) #[.float .f64 x1, .float .f64 y1, .float .f64 z1] 24 ∧ Cl w w') ⟨(BT).alo _, (BF).alo _, (BG).alo _, (BD).alo _, Lp.Bk.al _ _ _, (HB).alloc _⟩ ?_
    clear kT kF kG kD nT0 mT0 nT1 mT1 nF0 mF0 nF1 mF1 nG0 mG0 nG1 mG1 nD0 mD0 nD1 mD1
    clear BT BF BG BD HB
    rintro v5 ⟨BT, BF, BG, BD, BX, HB⟩
    have kT := BT.cell
    have kF := BF.cell
    have kG := BG.cell
    have kD := BD.cell
    have kX := BX.cell
    have nT0 : (w.heap.size = v5.heap.size) = False := eq_false (by have := BT.lt; omega)
    have mT0 : w.heap.size < v5.heap.size := by have := BT.lt; omega
    have nT1 : (w.heap.size = v5.heap.size + 1) = False := eq_false (by have := BT.lt; omega)
    have mT1 : w.heap.size < v5.heap.size + 1 := by have := BT.lt; omega
    have nF0 : (w.heap.size + 1 = v5.heap.size) = False := eq_false (by have := BF.lt; omega)
    have mF0 : w.heap.size + 1 < v5.heap.size := by have := BF.lt; omega
    have nF1 : (w.heap.size = v5.heap.size) = False := eq_false (by have := BF.lt; omega)
    have mF1 : w.heap.size < v5.heap.size := by have := BF.lt; omega
    have nG0 : (w.heap.size + 1 + 1 = v5.heap.size) = False := eq_false (by have := BG.lt; omega)
    have mG0 : w.heap.size + 1 + 1 < v5.heap.size := by have := BG.lt; omega
    have nG1 : (w.heap.size + 1 = v5.heap.size) = False := eq_false (by have := BG.lt; omega)
    have mG1 : w.heap.size + 1 < v5.heap.size := by have := BG.lt; omega
    have nD0 : (v2.heap.size = v5.heap.size) = False := eq_false (by have := BD.lt; omega)
    have mD0 : v2.heap.size < v5.heap.size := by have := BD.lt; omega
    have nD1 : (v2.heap.size = v5.heap.size + 1) = False := eq_false (by have := BD.lt; omega)
    have mD1 : v2.heap.size < v5.heap.size + 1 := by have := BD.lt; omega
    have nX0 : (v4.heap.size = v5.heap.size) = False := eq_false (by have := BX.lt; omega)
    have mX0 : v4.heap.size < v5.heap.size := by have := BX.lt; omega
    have nX1 : (v4.heap.size = v5.heap.size + 1) = False := eq_false (by have := BX.lt; omega)
    have mX1 : v4.heap.size < v5.heap.size + 1 := by have := BX.lt; omega
    refine Calls.mono (HU.out _ _ _ h1 _) ?_
    rintro e v6 ⟨v, rfl, ⟨x2, y2, z2, rfl, h2, w2⟩, hm⟩
    clear kT kF kG kD kX nT0 mT0 nT1 mT1 nF0 mF0 nF1 mF1 nG0 mG0 nG1 mG1 nD0 mD0 nD1 mD1 nX0 mX0 nX1 mX1
    replace BT := BT.keep hm
    replace BF := BF.keep hm
    replace BG := BG.keep hm
    replace BD := BD.keep hm
    replace BX := BX.keep hm
    replace HB := HB.call hm
    clear hm
    have kT := BT.cell
    have kF := BF.cell
    have kG := BG.cell
    have kD := BD.cell
    have kX := BX.cell
    have nT0 : (w.heap.size = v6.heap.size) = False := eq_false (by have := BT.lt; omega)
    have mT0 : w.heap.size < v6.heap.size := by have := BT.lt; omega
    have nT1 : (w.heap.size = v6.heap.size + 1) = False := eq_false (by have := BT.lt; omega)
    have mT1 : w.heap.size < v6.heap.size + 1 := by have := BT.lt; omega
    have nF0 : (w.heap.size + 1 = v6.heap.size) = False := eq_false (by have := BF.lt; omega)
    have mF0 : w.heap.size + 1 < v6.heap.size := by have := BF.lt; omega
    have nF1 : (w.heap.size = v6.heap.size) = False := eq_false (by have := BF.lt; omega)
    have mF1 : w.heap.size < v6.heap.size := by have := BF.lt; omega
    have nG0 : (w.heap.size + 1 + 1 = v6.heap.size) = False := eq_false (by have := BG.lt; omega)
    have mG0 : w.heap.size + 1 + 1 < v6.heap.size := by have := BG.lt; omega
    have nG1 : (w.heap.size + 1 = v6.heap.size) = False := eq_false (by have := BG.lt; omega)
    have mG1 : w.heap.size + 1 < v6.heap.size := by have := BG.lt; omega
    have nD0 : (v2.heap.size = v6.heap.size) = False := eq_false (by have := BD.lt; omega)
    have mD0 : v2.heap.size < v6.heap.size := by have := BD.lt; omega
    have nD1 : (v2.heap.size = v6.heap.size + 1) = False := eq_false (by have := BD.lt; omega)
    have mD1 : v2.heap.size < v6.heap.size + 1 := by have := BD.lt; omega
    have nX0 : (v4.heap.size = v6.heap.size) = False := eq_false (by have := BX.lt; omega)
    have mX0 : v4.heap.size < v6.heap.size := by have := BX.lt; omega
    have nX1 : (v4.heap.size = v6.heap.size + 1) = False := eq_false (by have := BX.lt; omega)
    have mX1 : v4.heap.size < v6.heap.size + 1 := by have := BX.lt; omega
    go_wp2_with fail
    refine Lp.settleC (fun w' => Lp.Bk w' (w.heap.size) #[.float .f64 A.x, .float .f64 A.y, .float .f64 A.z, .float .f64 B.x, .float .f64 B.y, .float .f64 B.z, .float .f64 C.x, .float .f64 C.y, .float .f64 C.z] 26 ∧ Lp.Bk w' (w.heap.size + 1) #[.float .f64 F.x, .float .f64 F.y, .float .f64 F.z] 24 ∧ Lp.Bk w' (w.heap.size + 1 + 1) #[.float .f64 G.x, .float .f64 G.y, .float .f64 G.z] 24 ∧ Lp.Bk w' (v2.heap.size) #[.float .f64 x, .float .f64 y, .float .f64 z] 24 ∧ Lp.Bk w' (v4.heap.size) #[.float .f64 x1, .float .f64 y1, .float .f64 z1] 24 ∧ Lp.Bk w' (v6.heap.size) #[.float .f64 x2, .float .f64 y2, .float .f64 z2] 24 ∧ Cl w w') ⟨(BT).alo _, (BF).alo _, (BG).alo _, (BD).alo _, (BX).alo _, Lp.Bk.al _ _ _, (HB).alloc _⟩ ?_
    clear kT kF kG kD kX nT0 mT0 nT1 mT1 nF0 mF0 nF1 mF1 nG0 mG0 nG1 mG1 nD0 mD0 nD1 mD1 nX0 mX0 nX1 mX1
    clear BT BF BG BD BX HB
    rintro v7 ⟨BT, BF, BG, BD, BX, BE, HB⟩
    have kT := BT.cell
    have kF := BF.cell
    have kG := BG.cell
    have kD := BD.cell
    have kX := BX.cell
    have kE := BE.cell
    have nT0 : (w.heap.size = v7.heap.size) = False := eq_false (by have := BT.lt; omega)
    have mT0 : w.heap.size < v7.heap.size := by have := BT.lt; omega
    have nT1 : (w.heap.size = v7.heap.size + 1) = False := eq_false (by have := BT.lt; omega)
    have mT1 : w.heap.size < v7.heap.size + 1 := by have := BT.lt; omega
    have nF0 : (w.heap.size + 1 = v7.heap.size) = False := eq_false (by have := BF.lt; omega)
    have mF0 : w.heap.size + 1 < v7.heap.size := by have := BF.lt; omega
    have nF1 : (w.heap.size = v7.heap.size) = False := eq_false (by have := BF.lt; omega)
    have mF1 : w.heap.size < v7.heap.size := by have := BF.lt; omega
    have nG0 : (w.heap.size + 1 + 1 = v7.heap.size) = False := eq_false (by have := BG.lt; omega)
    have mG0 : w.heap.size + 1 + 1 < v7.heap.size := by have := BG.lt; omega
    have nG1 : (w.heap.size + 1 = v7.heap.size) = False := eq_false (by have := BG.lt; omega)
    have mG1 : w.heap.size + 1 < v7.heap.size := by have := BG.lt; omega
    have nD0 : (v2.heap.size = v7.heap.size) = False := eq_false (by have := BD.lt; omega)
    have mD0 : v2.heap.size < v7.heap.size := by have := BD.lt; omega
    have nD1 : (v2.heap.size = v7.heap.size + 1) = False := eq_false (by have := BD.lt; omega)
    have mD1 : v2.heap.size < v7.heap.size + 1 := by have := BD.lt; omega
    have nX0 : (v4.heap.size = v7.heap.size) = False := eq_false (by have := BX.lt; omega)
    have mX0 : v4.heap.size < v7.heap.size := by have := BX.lt; omega
    have nX1 : (v4.heap.size = v7.heap.size + 1) = False := eq_false (by have := BX.lt; omega)
    have mX1 : v4.heap.size < v7.heap.size + 1 := by have := BX.lt; omega
    have nE0 : (v6.heap.size = v7.heap.size) = False := eq_false (by have := BE.lt; omega)
    have mE0 : v6.heap.size < v7.heap.size := by have := BE.lt; omega
    have nE1 : (v6.heap.size = v7.heap.size + 1) = False := eq_false (by have := BE.lt; omega)
    have mE1 : v6.heap.size < v7.heap.size + 1 := by have := BE.lt; omega
    refine Calls.mono (ris_c hx h2 _) ?_
    rintro e v8 ⟨v, rfl, rfl, hm⟩
    clear kT kF kG kD kX kE nT0 mT0 nT1 mT1 nF0 mF0 nF1 mF1 nG0 mG0 nG1 mG1 nD0 mD0 nD1 mD1 nX0 mX0 nX1 mX1 nE0 mE0 nE1 mE1
    replace BT := BT.keep hm
    replace BF := BF.keep hm
    replace BG := BG.keep hm
    replace BD := BD.keep hm
    replace BX := BX.keep hm
    replace BE := BE.keep hm
    replace HB := HB.call hm
    clear hm
    have kT := BT.cell
    have kF := BF.cell
    have kG := BG.cell
    have kD := BD.cell
    have kX := BX.cell
    have kE := BE.cell
    have nT0 : (w.heap.size = v8.heap.size) = False := eq_false (by have := BT.lt; omega)
    have mT0 : w.heap.size < v8.heap.size := by have := BT.lt; omega
    have nT1 : (w.heap.size = v8.heap.size + 1) = False := eq_false (by have := BT.lt; omega)
    have mT1 : w.heap.size < v8.heap.size + 1 := by have := BT.lt; omega
    have nF0 : (w.heap.size + 1 = v8.heap.size) = False := eq_false (by have := BF.lt; omega)
    have mF0 : w.heap.size + 1 < v8.heap.size := by have := BF.lt; omega
    have nF1 : (w.heap.size = v8.heap.size) = False := eq_false (by have := BF.lt; omega)
    have mF1 : w.heap.size < v8.heap.size := by have := BF.lt; omega
    have nG0 : (w.heap.size + 1 + 1 = v8.heap.size) = False := eq_false (by have := BG.lt; omega)
    have mG0 : w.heap.size + 1 + 1 < v8.heap.size := by have := BG.lt; omega
    have nG1 : (w.heap.size + 1 = v8.heap.size) = False := eq_false (by have := BG.lt; omega)
    have mG1 : w.heap.size + 1 < v8.heap.size := by have := BG.lt; omega
    have nD0 : (v2.heap.size = v8.heap.size) = False := eq_false (by have := BD.lt; omega)
    have mD0 : v2.heap.size < v8.heap.size := by have := BD.lt; omega
    have nD1 : (v2.heap.size = v8.heap.size + 1) = False := eq_false (by have := BD.lt; omega)
    have mD1 : v2.heap.size < v8.heap.size + 1 := by have := BD.lt; omega
    have nX0 : (v4.heap.size = v8.heap.size) = False := eq_false (by have := BX.lt; omega)
    have mX0 : v4.heap.size < v8.heap.size := by have := BX.lt; omega
    have nX1 : (v4.heap.size = v8.heap.size + 1) = False := eq_false (by have := BX.lt; omega)
    have mX1 : v4.heap.size < v8.heap.size + 1 := by have := BX.lt; omega
    have nE0 : (v6.heap.size = v8.heap.size) = False := eq_false (by have := BE.lt; omega)
    have mE0 : v6.heap.size < v8.heap.size := by have := BE.lt; omega
    have nE1 : (v6.heap.size = v8.heap.size + 1) = False := eq_false (by have := BE.lt; omega)
    have mE1 : v6.heap.size < v8.heap.size + 1 := by have := BE.lt; omega
    go_wp2_with fail
    refine Calls.mono (rdot_c _ h1 h1) ?_
    rintro e v9 ⟨v, rfl, ⟨m, rfl, hmm⟩, hm⟩
    clear kT kF kG kD kX kE nT0 mT0 nT1 mT1 nF0 mF0 nF1 mF1 nG0 mG0 nG1 mG1 nD0 mD0 nD1 mD1 nX0 mX0 nX1 mX1 nE0 mE0 nE1 mE1
    replace BT := BT.keep hm
    replace BF := BF.keep hm
    replace BG := BG.keep hm
    replace BD := BD.keep hm
    replace BX := BX.keep hm
    replace BE := BE.keep hm
    replace HB := HB.call hm
    clear hm
    have kT := BT.cell
    have kF := BF.cell
    have kG := BG.cell
    have kD := BD.cell
    have kX := BX.cell
    have kE := BE.cell
    have nT0 : (w.heap.size = v9.heap.size) = False := eq_false (by have := BT.lt; omega)
    have mT0 : w.heap.size < v9.heap.size := by have := BT.lt; omega
    have nT1 : (w.heap.size = v9.heap.size + 1) = False := eq_false (by have := BT.lt; omega)
    have mT1 : w.heap.size < v9.heap.size + 1 := by have := BT.lt; omega
    have nF0 : (w.heap.size + 1 = v9.heap.size) = False := eq_false (by have := BF.lt; omega)
    have mF0 : w.heap.size + 1 < v9.heap.size := by have := BF.lt; omega
    have nF1 : (w.heap.size = v9.heap.size) = False := eq_false (by have := BF.lt; omega)
    have mF1 : w.heap.size < v9.heap.size := by have := BF.lt; omega
    have nG0 : (w.heap.size + 1 + 1 = v9.heap.size) = False := eq_false (by have := BG.lt; omega)
    have mG0 : w.heap.size + 1 + 1 < v9.heap.size := by have := BG.lt; omega
    have nG1 : (w.heap.size + 1 = v9.heap.size) = False := eq_false (by have := BG.lt; omega)
    have mG1 : w.heap.size + 1 < v9.heap.size := by have := BG.lt; omega
    have nD0 : (v2.heap.size = v9.heap.size) = False := eq_false (by have := BD.lt; omega)
    have mD0 : v2.heap.size < v9.heap.size := by have := BD.lt; omega
    have nD1 : (v2.heap.size = v9.heap.size + 1) = False := eq_false (by have := BD.lt; omega)
    have mD1 : v2.heap.size < v9.heap.size + 1 := by have := BD.lt; omega
    have nX0 : (v4.heap.size = v9.heap.size) = False := eq_false (by have := BX.lt; omega)
    have mX0 : v4.heap.size < v9.heap.size := by have := BX.lt; omega
    have nX1 : (v4.heap.size = v9.heap.size + 1) = False := eq_false (by have := BX.lt; omega)
    have mX1 : v4.heap.size < v9.heap.size + 1 := by have := BX.lt; omega
    have nE0 : (v6.heap.size = v9.heap.size) = False := eq_false (by have := BE.lt; omega)
    have mE0 : v6.heap.size < v9.heap.size := by have := BE.lt; omega
    have nE1 : (v6.heap.size = v9.heap.size + 1) = False := eq_false (by have := BE.lt; omega)
    have mE1 : v6.heap.size < v9.heap.size + 1 := by have := BE.lt; omega
    go_wp2_with fail
    refine Calls.mono (rsame_c hn.sm hmm.sm _) ?_
    rintro e v10 ⟨v, rfl, rfl, hm⟩
    clear kT kF kG kD kX kE nT0 mT0 nT1 mT1 nF0 mF0 nF1 mF1 nG0 mG0 nG1 mG1 nD0 mD0 nD1 mD1 nX0 mX0 nX1 mX1 nE0 mE0 nE1 mE1
    replace BT := BT.keep hm
    replace BF := BF.keep hm
    replace BG := BG.keep hm
    replace BD := BD.keep hm
    replace BX := BX.keep hm
    replace BE := BE.keep hm
    replace HB := HB.call hm
    clear hm
    have kT := BT.cell
    have kF := BF.cell
    have kG := BG.cell
    have kD := BD.cell
    have kX := BX.cell
    have kE := BE.cell
    have nT0 : (w.heap.size = v10.heap.size) = False := eq_false (by have := BT.lt; omega)
    have mT0 : w.heap.size < v10.heap.size := by have := BT.lt; omega
    have nT1 : (w.heap.size = v10.heap.size + 1) = False := eq_false (by have := BT.lt; omega)
    have mT1 : w.heap.size < v10.heap.size + 1 := by have := BT.lt; omega
    have nF0 : (w.heap.size + 1 = v10.heap.size) = False := eq_false (by have := BF.lt; omega)
    have mF0 : w.heap.size + 1 < v10.heap.size := by have := BF.lt; omega
    have nF1 : (w.heap.size = v10.heap.size) = False := eq_false (by have := BF.lt; omega)
    have mF1 : w.heap.size < v10.heap.size := by have := BF.lt; omega
    have nG0 : (w.heap.size + 1 + 1 = v10.heap.size) = False := eq_false (by have := BG.lt; omega)
    have mG0 : w.heap.size + 1 + 1 < v10.heap.size := by have := BG.lt; omega
    have nG1 : (w.heap.size + 1 = v10.heap.size) = False := eq_false (by have := BG.lt; omega)
    have mG1 : w.heap.size + 1 < v10.heap.size := by have := BG.lt; omega
    have nD0 : (v2.heap.size = v10.heap.size) = False := eq_false (by have := BD.lt; omega)
    have mD0 : v2.heap.size < v10.heap.size := by have := BD.lt; omega
    have nD1 : (v2.heap.size = v10.heap.size + 1) = False := eq_false (by have := BD.lt; omega)
    have mD1 : v2.heap.size < v10.heap.size + 1 := by have := BD.lt; omega
    have nX0 : (v4.heap.size = v10.heap.size) = False := eq_false (by have := BX.lt; omega)
    have mX0 : v4.heap.size < v10.heap.size := by have := BX.lt; omega
    have nX1 : (v4.heap.size = v10.heap.size + 1) = False := eq_false (by have := BX.lt; omega)
    have mX1 : v4.heap.size < v10.heap.size + 1 := by have := BX.lt; omega
    have nE0 : (v6.heap.size = v10.heap.size) = False := eq_false (by have := BE.lt; omega)
    have mE0 : v6.heap.size < v10.heap.size := by have := BE.lt; omega
    have nE1 : (v6.heap.size = v10.heap.size + 1) = False := eq_false (by have := BE.lt; omega)
    have mE1 : v6.heap.size < v10.heap.size + 1 := by have := BE.lt; omega
    go_wp2_with fail
    refine Calls.mono (HX.out _) ?_
    rintro e v11 ⟨v, rfl, ⟨s, rfl, hs⟩, hm⟩
    clear kT kF kG kD kX kE nT0 mT0 nT1 mT1 nF0 mF0 nF1 mF1 nG0 mG0 nG1 mG1 nD0 mD0 nD1 mD1 nX0 mX0 nX1 mX1 nE0 mE0 nE1 mE1
    replace BT := BT.keep hm
    replace BF := BF.keep hm
    replace BG := BG.keep hm
    replace BD := BD.keep hm
    replace BX := BX.keep hm
    replace BE := BE.keep hm
    replace HB := HB.call hm
    clear hm
    have kT := BT.cell
    have kF := BF.cell
    have kG := BG.cell
    have kD := BD.cell
    have kX := BX.cell
    have kE := BE.cell
    have nT0 : (w.heap.size = v11.heap.size) = False := eq_false (by have := BT.lt; omega)
    have mT0 : w.heap.size < v11.heap.size := by have := BT.lt; omega
    have nT1 : (w.heap.size = v11.heap.size + 1) = False := eq_false (by have := BT.lt; omega)
    have mT1 : w.heap.size < v11.heap.size + 1 := by have := BT.lt; omega
    have nF0 : (w.heap.size + 1 = v11.heap.size) = False := eq_false (by have := BF.lt; omega)
    have mF0 : w.heap.size + 1 < v11.heap.size := by have := BF.lt; omega
    have nF1 : (w.heap.size = v11.heap.size) = False := eq_false (by have := BF.lt; omega)
    have mF1 : w.heap.size < v11.heap.size := by have := BF.lt; omega
    have nG0 : (w.heap.size + 1 + 1 = v11.heap.size) = False := eq_false (by have := BG.lt; omega)
    have mG0 : w.heap.size + 1 + 1 < v11.heap.size := by have := BG.lt; omega
    have nG1 : (w.heap.size + 1 = v11.heap.size) = False := eq_false (by have := BG.lt; omega)
    have mG1 : w.heap.size + 1 < v11.heap.size := by have := BG.lt; omega
    have nD0 : (v2.heap.size = v11.heap.size) = False := eq_false (by have := BD.lt; omega)
    have mD0 : v2.heap.size < v11.heap.size := by have := BD.lt; omega
    have nD1 : (v2.heap.size = v11.heap.size + 1) = False := eq_false (by have := BD.lt; omega)
    have mD1 : v2.heap.size < v11.heap.size + 1 := by have := BD.lt; omega
    have nX0 : (v4.heap.size = v11.heap.size) = False := eq_false (by have := BX.lt; omega)
    have mX0 : v4.heap.size < v11.heap.size := by have := BX.lt; omega
    have nX1 : (v4.heap.size = v11.heap.size + 1) = False := eq_false (by have := BX.lt; omega)
    have mX1 : v4.heap.size < v11.heap.size + 1 := by have := BX.lt; omega
    have nE0 : (v6.heap.size = v11.heap.size) = False := eq_false (by have := BE.lt; omega)
    have mE0 : v6.heap.size < v11.heap.size := by have := BE.lt; omega
    have nE1 : (v6.heap.size = v11.heap.size + 1) = False := eq_false (by have := BE.lt; omega)
    have mE1 : v6.heap.size < v11.heap.size + 1 := by have := BE.lt; omega
    go_wp2_with fail
    have hge := HG.out s hs
    apply Lw.region _ _ 29 (by kernel_rfl) (by kernel_rfl) (by kernel_rfl) (Below.refl _ _)
    apply Lw.facts
    · intro w1 hw
      exact And.intro (BT.cl hw).cell (And.intro (BF.cl hw).cell (And.intro (BG.cl hw).cell (And.intro (BD.cl hw).cell (And.intro (BX.cl hw).cell ((BE.cl hw).cell)))))
    intro HF
    apply Lw.any rfl
    · intro w hw
      go_simp
      exact Lw.ret (awake_any _)
    intro K hK
    rintro v rfl
    go_simp
    refine hK.out _ ?_
    clear hK K
    iterate 4 (
      apply Lw.one ?_ rfl
      · intro w hw
        obtain ⟨k0, k1, k2, k3, k4, k5⟩ := HF.out _ hw
        go_simp
        exact rfl
      intro K hK
      go_simp
      refine hK.out _ ?_
      clear hK K)
    apply Lw.any rfl
    · intro w hw
      go_simp
      exact Lw.ret (HC.out _)
    intro K hK
    rintro v ⟨c, rfl, hc⟩
    go_simp
    refine hK.out _ ?_
    clear hK K
    iterate 3 (
      apply Lw.one ?_ rfl
      · intro w hw
        obtain ⟨k0, k1, k2, k3, k4, k5⟩ := HF.out _ hw
        go_simp
        exact rfl
      intro K hK
      go_simp
      refine hK.out _ ?_
      clear hK K)
    apply Lw.any rfl
    · intro w hw
      go_simp
      exact Lw.ret (HD.out _)
    intro K hK
    rintro v ⟨d, rfl, hd⟩
    go_simp
    refine hK.out _ ?_
    clear hK K
    apply Lw.any rfl
    · intro w hw
      go_simp
      exact Lw.ret (rsame_c hc.sm hd.sm _)
    intro K hK
    rintro v rfl
    go_simp
    refine hK.out _ ?_
    clear hK K
    iterate 6 (
      apply Lw.one ?_ rfl
      · intro w hw
        obtain ⟨k0, k1, k2, k3, k4, k5⟩ := HF.out _ hw
        go_simp
        exact rfl
      intro K hK
      go_simp
      refine hK.out _ ?_
      clear hK K)
    apply Lw.any rfl
    · intro w hw
      go_simp
      exact Lw.ret (HR.out _)
    intro K hK
    rintro v ⟨r, rfl, hr⟩
    go_simp
    refine hK.out _ ?_
    clear hK K
    have heq := HE.out s r hs hr
    iterate 8 (
      apply Lw.one ?_ rfl
      · intro w hw
        obtain ⟨k0, k1, k2, k3, k4, k5⟩ := HF.out _ hw
        go_simp
        exact rfl
      intro K hK
      go_simp
      refine hK.out _ ?_
      clear hK K)
    apply Lw.any rfl
    · intro w hw
      go_simp
      exact Lw.ret (HM.out s hs _)
    intro K hK
    rintro v rfl
    go_simp
    refine hK.out _ ?_
    clear hK K
    iterate 2 (
      apply Lw.one ?_ rfl
      · intro w hw
        obtain ⟨k0, k1, k2, k3, k4, k5⟩ := HF.out _ hw
        go_simp
        exact rfl
      intro K hK
      go_simp
      refine hK.out _ ?_
      clear hK K)
    rotate_left
    exact []
    refine Lw.fin ?_
    intro v12 hm2
    clear kT kF kG kD kX kE nT0 mT0 nT1 mT1 nF0 mF0 nF1 mF1 nG0 mG0 nG1 mG1 nD0 mD0 nD1 mD1 nX0 mX0 nX1 mX1 nE0 mE0 nE1 mE1
    replace BT := BT.keep hm2
    replace BF := BF.keep hm2
    replace BG := BG.keep hm2
    replace BD := BD.keep hm2
    replace BX := BX.keep hm2
    replace BE := BE.keep hm2
    replace HB := HB.call hm2
    clear hm2
    have kT := BT.cell
    have kF := BF.cell
    have kG := BG.cell
    have kD := BD.cell
    have kX := BX.cell
    have kE := BE.cell
    have nT0 : (w.heap.size = v12.heap.size) = False := eq_false (by have := BT.lt; omega)
    have mT0 : w.heap.size < v12.heap.size := by have := BT.lt; omega
    have nT1 : (w.heap.size = v12.heap.size + 1) = False := eq_false (by have := BT.lt; omega)
    have mT1 : w.heap.size < v12.heap.size + 1 := by have := BT.lt; omega
    have nF0 : (w.heap.size + 1 = v12.heap.size) = False := eq_false (by have := BF.lt; omega)
    have mF0 : w.heap.size + 1 < v12.heap.size := by have := BF.lt; omega
    have nF1 : (w.heap.size = v12.heap.size) = False := eq_false (by have := BF.lt; omega)
    have mF1 : w.heap.size < v12.heap.size := by have := BF.lt; omega
    have nG0 : (w.heap.size + 1 + 1 = v12.heap.size) = False := eq_false (by have := BG.lt; omega)
    have mG0 : w.heap.size + 1 + 1 < v12.heap.size := by have := BG.lt; omega
    have nG1 : (w.heap.size + 1 = v12.heap.size) = False := eq_false (by have := BG.lt; omega)
    have mG1 : w.heap.size + 1 < v12.heap.size := by have := BG.lt; omega
    have nD0 : (v2.heap.size = v12.heap.size) = False := eq_false (by have := BD.lt; omega)
    have mD0 : v2.heap.size < v12.heap.size := by have := BD.lt; omega
    have nD1 : (v2.heap.size = v12.heap.size + 1) = False := eq_false (by have := BD.lt; omega)
    have mD1 : v2.heap.size < v12.heap.size + 1 := by have := BD.lt; omega
    have nX0 : (v4.heap.size = v12.heap.size) = False := eq_false (by have := BX.lt; omega)
    have mX0 : v4.heap.size < v12.heap.size := by have := BX.lt; omega
    have nX1 : (v4.heap.size = v12.heap.size + 1) = False := eq_false (by have := BX.lt; omega)
    have mX1 : v4.heap.size < v12.heap.size + 1 := by have := BX.lt; omega
    have nE0 : (v6.heap.size = v12.heap.size) = False := eq_false (by have := BE.lt; omega)
    have mE0 : v6.heap.size < v12.heap.size := by have := BE.lt; omega
    have nE1 : (v6.heap.size = v12.heap.size + 1) = False := eq_false (by have := BE.lt; omega)
    have mE1 : v6.heap.size < v12.heap.size + 1 := by have := BE.lt; omega
    go_wp2_with fail
    go_ret
    exact ⟨_, rfl, rfl, HB⟩

end Go.Proofs.Ytjcdmdjkolmliaa

namespace Go.Proofs.Ytjcdmdjkolmliaa.Fl
section
variable {H : Type} {enc : TypeId × Value → H} {P : Program} {w : World} {base : Nat} {spare : Nat → Bool} {held : Bool} {fuel : Nat} {t : TypeId} {cs : List Value} {x : DataW H × List MemPlace}
theorem trod_float {k : FloatKind} (ht : P.underlying t = some (.float k)) (h : DataW.trod enc P w base spare held fuel t cs = some x) : ∃ n, cs = [.float k n] ∧ x = (.lit (.float k n), []) ∧ (Lit.float k n).wf = true := by
  cases fuel with
  | zero => simp [DataW.trod] at h
  | succ n =>
    unfold DataW.trod at h
    rw [ht] at h
    split at h <;> simp_all
end
end Go.Proofs.Ytjcdmdjkolmliaa.Fl
namespace Go.Proofs.Ytjcdmdjkolmliaa
open Go.ChangeShapes Go.WideShapes Go.ChangeAt Go.RowKit Fl Go.Joins

theorem Try.own : ownKnob Try.prog.godebug = none := by kernel_rfl
theorem Try.laidOut : laidOutB Try.prog = true := by kernel_rfl

theorem Try.cells24 : Try.prog.cellsOf 24 = 3 := by kernel_rfl

theorem open_vec {H : Type} {enc : TypeId × Value → H} {W : World} {base : Nat} {spare : Nat → Bool} {held : Bool} {r : Reach} {b0 : Nat} {v : Value} {d : DataW H} {ps : List MemPlace} (hv : Value.okWide Try.prog W r b0 24 v) (h : DataW.Trod enc Try.prog W base spare held 24 v d ps) :
    ∃ x y z, v = .agg #[.float .f64 x, .float .f64 y, .float .f64 z] ∧ d = .agg [.lit (.float .f64 x), .lit (.float .f64 y), .lit (.float .f64 z)] ∧ ps = [] ∧
      (Lit.float .f64 x).wf = true ∧ (Lit.float .f64 y).wf = true ∧ (Lit.float .f64 z).wf = true := by
  obtain ⟨c0, c1, c2, y0, y1, y2, m, rfl, rfl, rfl, h0, h1, h2⟩ := open_agg3 Try.underlying24 (by kernel_rfl) Try.cells24 hv h
  obtain ⟨x, e0, rfl, wx⟩ := trod_float Try.underlying22 h0
  obtain ⟨y, e1, rfl, wy⟩ := trod_float Try.underlying22 h1
  obtain ⟨z, e2, rfl, wz⟩ := trod_float Try.underlying22 h2
  simp at e0 e1 e2
  subst e0 e1 e2
  exact ⟨x, y, z, rfl, rfl, rfl, wx, wy, wz⟩

theorem shut_vec {H : Type} {enc : TypeId × Value → H} {W : World} {base : Nat} {spare : Nat → Bool} {held : Bool} {x y z : Nat} (wx : (Lit.float .f64 x).wf = true) (wy : (Lit.float .f64 y).wf = true) (wz : (Lit.float .f64 z).wf = true) :
    DataW.Trod enc Try.prog W base spare held 24 (.agg #[.float .f64 x, .float .f64 y, .float .f64 z]) (.agg [.lit (.float .f64 x), .lit (.float .f64 y), .lit (.float .f64 z)]) [] :=
  shut_agg3 (y0 := (.lit (.float .f64 x), [])) (y1 := (.lit (.float .f64 y), [])) (y2 := (.lit (.float .f64 z), [])) Try.underlying24 (by kernel_rfl) Try.cells24
    ⟨1, by simp [DataW.trod, Try.underlying22, wx]⟩ ⟨1, by simp [DataW.trod, Try.underlying22, wy]⟩ ⟨1, by simp [DataW.trod, Try.underlying22, wz]⟩

end Go.Proofs.Ytjcdmdjkolmliaa

namespace Go.Proofs.Ytjcdmdjkolmliaa
open Go.ChangeShapes Go.WideShapes Go.ChangeAt Go.RowKit Fl Go.Joins Go.Deep

theorem array6 {α : Type} {cs : Array α} (h : cs.size = 6) : ∃ c0 c1 c2 c3 c4 c5, cs = #[c0, c1, c2, c3, c4, c5] := by
  obtain ⟨l⟩ := cs
  match l, h with
  | [c0, c1, c2, c3, c4, c5], _ => exact ⟨c0, c1, c2, c3, c4, c5, rfl⟩
theorem array9 {α : Type} {cs : Array α} (h : cs.size = 9) : ∃ c0 c1 c2 c3 c4 c5 c6 c7 c8, cs = #[c0, c1, c2, c3, c4, c5, c6, c7, c8] := by
  obtain ⟨l⟩ := cs
  match l, h with
  | [c0, c1, c2, c3, c4, c5, c6, c7, c8], _ => exact ⟨c0, c1, c2, c3, c4, c5, c6, c7, c8, rfl⟩
/-- Three words. -/
def Wf3 (x y z : Nat) : Prop := (Lit.float .f64 x).wf = true ∧ (Lit.float .f64 y).wf = true ∧ (Lit.float .f64 z).wf = true

theorem trod_vec {H : Type} {enc : TypeId × Value → H} {W : World} {base : Nat} {spare : Nat → Bool} {held : Bool} {n : Nat} {c0 c1 c2 : Value} {y : DataW H × List MemPlace} (h : DataW.trod enc Try.prog W base spare held n 24 [c0, c1, c2] = some y) :
    ∃ x y' z, c0 = .float .f64 x ∧ c1 = .float .f64 y' ∧ c2 = .float .f64 z ∧ y = (.agg [.lit (.float .f64 x), .lit (.float .f64 y'), .lit (.float .f64 z)], []) ∧ Wf3 x y' z := by
  obtain ⟨y0, y1, y2, m, hx, _, h0, h1, h2⟩ := trod_struct3 Try.underlying24 h
  have k : Try.prog.cellsOf 22 = 1 := by kernel_rfl
  simp only [k, List.drop_zero, List.drop_succ_cons, List.take_succ_cons, List.take_zero] at h0 h1 h2
  obtain ⟨x, e0, rfl, wx⟩ := trod_float Try.underlying22 h0
  obtain ⟨y', e1, rfl, wy⟩ := trod_float Try.underlying22 h1
  obtain ⟨z, e2, rfl, wz⟩ := trod_float Try.underlying22 h2
  simp at e0 e1 e2
  subst e0 e1 e2 hx
  exact ⟨x, y', z, rfl, rfl, rfl, rfl, wx, wy, wz⟩

theorem trod_vec_mk {H : Type} {enc : TypeId × Value → H} {W : World} {base : Nat} {spare : Nat → Bool} {held : Bool} {x y z : Nat} (h : Wf3 x y z) :
    DataW.trod enc Try.prog W base spare held 2 24 [.float .f64 x, .float .f64 y, .float .f64 z] = some (.agg [.lit (.float .f64 x), .lit (.float .f64 y), .lit (.float .f64 z)], []) := by
  have k : Try.prog.cellsOf 22 = 1 := by kernel_rfl
  refine trod_struct3_mk (n := 1) (y0 := (.lit (.float .f64 x), [])) (y1 := (.lit (.float .f64 y), [])) (y2 := (.lit (.float .f64 z), [])) Try.underlying24 (by rw [Try.cells24]; rfl) ?_ ?_ ?_ <;>
  simp only [k, List.drop_zero, List.drop_succ_cons, List.take_succ_cons, List.take_zero] <;> simp [DataW.trod, Try.underlying22, h.1, h.2.1, h.2.2]

theorem Try.cells26 : Try.prog.cellsOf 26 = 9 := by kernel_rfl

theorem open_tri {H : Type} {enc : TypeId × Value → H} {W : World} {base : Nat} {spare : Nat → Bool} {held : Bool} {r : Reach} {b0 : Nat} {v : Value} {d : DataW H} {ps : List MemPlace} (hv : Value.okWide Try.prog W r b0 26 v) (h : DataW.Trod enc Try.prog W base spare held 26 v d ps) :
    ∃ x0 x1 x2 x3 x4 x5 x6 x7 x8, v = .agg #[.float .f64 x0, .float .f64 x1, .float .f64 x2, .float .f64 x3, .float .f64 x4, .float .f64 x5, .float .f64 x6, .float .f64 x7, .float .f64 x8] ∧ d = .agg [.agg [.lit (.float .f64 x0), .lit (.float .f64 x1), .lit (.float .f64 x2)], .agg [.lit (.float .f64 x3), .lit (.float .f64 x4), .lit (.float .f64 x5)], .agg [.lit (.float .f64 x6), .lit (.float .f64 x7), .lit (.float .f64 x8)]] ∧ ps = [] ∧ Wf3 x0 x1 x2 ∧ Wf3 x3 x4 x5 ∧ Wf3 x6 x7 x8 := by
  obtain ⟨cs, rfl, hsz⟩ := okWide_struct Try.underlying26 hv
  obtain ⟨c0, c1, c2, c3, c4, c5, c6, c7, c8, rfl⟩ := array9 (hsz.trans Try.cells26)
  obtain ⟨fuel, hf⟩ := h
  obtain ⟨y0, y1, y2, m, hx, _, h0, h1, h2⟩ := trod_struct3 Try.underlying26 hf
  simp only [Value.cells, Try.cells24, List.drop_zero, List.drop_succ_cons, List.take_succ_cons, List.take_zero] at h0 h1 h2
  obtain ⟨x0, x1, x2, rfl, rfl, rfl, rfl, w0⟩ := trod_vec h0
  obtain ⟨x3, x4, x5, rfl, rfl, rfl, rfl, w1⟩ := trod_vec h1
  obtain ⟨x6, x7, x8, rfl, rfl, rfl, rfl, w2⟩ := trod_vec h2
  simp only [Prod.mk.injEq] at hx
  exact ⟨x0, x1, x2, x3, x4, x5, x6, x7, x8, rfl, hx.1, hx.2, w0, w1, w2⟩

theorem shut_tri {H : Type} {enc : TypeId × Value → H} {W : World} {base : Nat} {spare : Nat → Bool} {held : Bool} {x0 x1 x2 x3 x4 x5 x6 x7 x8 : Nat} (w0 : Wf3 x0 x1 x2) (w1 : Wf3 x3 x4 x5) (w2 : Wf3 x6 x7 x8) : DataW.Trod enc Try.prog W base spare held 26 (.agg #[.float .f64 x0, .float .f64 x1, .float .f64 x2, .float .f64 x3, .float .f64 x4, .float .f64 x5, .float .f64 x6, .float .f64 x7, .float .f64 x8]) (.agg [.agg [.lit (.float .f64 x0), .lit (.float .f64 x1), .lit (.float .f64 x2)], .agg [.lit (.float .f64 x3), .lit (.float .f64 x4), .lit (.float .f64 x5)], .agg [.lit (.float .f64 x6), .lit (.float .f64 x7), .lit (.float .f64 x8)]]) [] := by
  refine ⟨3, ?_⟩
  refine trod_struct3_mk (n := 2) (y0 := (_, [])) (y1 := (_, [])) (y2 := (_, [])) Try.underlying26 (by rw [Try.cells26]; rfl) ?_ ?_ ?_ <;>
  simp only [Value.cells, Try.cells24, List.drop_zero, List.drop_succ_cons, List.take_succ_cons, List.take_zero]
  · exact trod_vec_mk w0
  · exact trod_vec_mk w1
  · exact trod_vec_mk w2

end Go.Proofs.Ytjcdmdjkolmliaa
