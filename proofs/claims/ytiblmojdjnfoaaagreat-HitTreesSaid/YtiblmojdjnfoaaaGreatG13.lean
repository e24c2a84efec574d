/- The reference: Normal, Meet. -/
import Derived.Test.YtiblmojdjnfoaaaGreatRows
import Derived.Test.YtiblmojdjnfoaaaGreatG11
import Derived.Test.YtiblmojdjnfoaaaGreatG12
namespace Go.Proofs.YtiblmojdjnfoaaaGreat
open Go.RowKit Fl

def ltC (x y : Nat) : Bool := ford x y == some .lt
theorem lt_w {x y X Y : Nat} (hx : Sm x X) (hy : Sm y Y) : (FloatKind.f64.format.order x y == some .lt) = ltC X Y := by
  rw [ordf, ford_congr hx hy]; rfl
/-- What the reference answers. -/
def outM : Option V3 → Value
  | some h => .tuple #[.float .f64 h.x, .float .f64 h.y, .float .f64 h.z, .bool true]
  | none => .tuple #[.float .f64 0, .float .f64 0, .float .f64 0, .bool false]
/-- Its test. -/
theorem hit_det {d n f T a b : Nat} (h : okd d = false) : hitB n f T (fmul a (fdiv 4607182418800017408 d)) (fmul b (fdiv 4607182418800017408 d)) = false := by
  unfold hitB; rw [inside_det h]; rfl
theorem hit_ref (n f T U V : Nat) : hitB n f T U V = (geB U 0 && leB U 4607182418800017408 && geB V 0 && leB (fadd U V) 4607182418800017408 && geB T n && leB T f && gtC T 0) := by
  unfold hitB
  cases h : insideB U V
  · unfold insideB at h
    cases h0 : geB U 0
    · rfl
    · cases h1 : geB V 0
      · simp
      · cases h2 : leB (fadd U V) 4607182418800017408
        · simp
        · rw [h0, h1, h2] at h; cases h
  · rw [inside_one h]
    unfold insideB at h
    simp only [Bool.and_eq_true] at h
    rw [h.1.1, h.1.2, h.2]
    rfl

set_option maxRecDepth 100000 in
set_option maxHeartbeats 4000000 in
theorem rmeet_any (A B C O D : V3) (w : World) : Ret Tryz.prog 24 #[.agg #[.float .f64 A.x, .float .f64 A.y, .float .f64 A.z, .float .f64 B.x, .float .f64 B.y, .float .f64 B.z, .float .f64 C.x, .float .f64 C.y, .float .f64 C.z], .agg #[.float .f64 O.x, .float .f64 O.y, .float .f64 O.z, .float .f64 D.x, .float .f64 D.y, .float .f64 D.z]] w (fun v => v = outM (meetF A B C O D)) := by
  unfold Ret
  have HT := hid (fun w => rthrough_any (lowF (lowF (lowF pinf A.x) B.x) C.x) (lowF (lowF (lowF pinf A.y) B.y) C.y) (lowF (lowF (lowF pinf A.z) B.z) C.z) (highF (highF (highF ninf A.x) B.x) C.x) (highF (highF (highF ninf A.y) B.y) C.y) (highF (highF (highF ninf A.z) B.z) C.z) O.x O.y O.z D.x D.y D.z w)
  have HE := hid (show goesF (lowF (lowF (lowF pinf A.x) B.x) C.x) (lowF (lowF (lowF pinf A.y) B.y) C.y) (lowF (lowF (lowF pinf A.z) B.z) C.z) (highF (highF (highF ninf A.x) B.x) C.x) (highF (highF (highF ninf A.y) B.y) C.y) (highF (highF (highF ninf A.z) B.z) C.z) O.x O.y O.z D.x D.y D.z = triGo A B C O D from rfl)
  rw [HE.out] at HT
  clear HE
  have HM := hid (show meetF A B C O D = match triGo A B C O D with | none => none | some s => if hitB s.1 s.2 (cutT A B C O D) (cutU A B C O D) (cutV A B C O D) then some ⟨cutT A B C O D, cutU A B C O D, cutV A B C O D⟩ else none from rfl)
  generalize meetF A B C O D = M at HM ⊢
  generalize triGo A B C O D = s at HT HM
  have HB : Cl w w := Below.refl _ _
  have A' := A.self
  have B' := B.self
  have C' := C.self
  have O' := O.self
  have D' := D.self
  have HSA := hid (And.intro A' (And.intro B' (And.intro C' (And.intro O' D'))))
  clear A' B' C' O' D'
  rcases s with _ | ⟨n, f⟩
  · simp only [outT] at HT
    go_enter Tryz.func24, Tryz.ntmps24
    go_wp2_with fail
    refine Lp.settle (fun w' => Lp.Bk w' (w.heap.size) #[.float .f64 A.x, .float .f64 A.y, .float .f64 A.z, .float .f64 B.x, .float .f64 B.y, .float .f64 B.z, .float .f64 C.x, .float .f64 C.y, .float .f64 C.z] 60 ∧ Lp.Bk w' (w.heap.size + 1) #[.float .f64 O.x, .float .f64 O.y, .float .f64 O.z, .float .f64 D.x, .float .f64 D.y, .float .f64 D.z] 27 ∧ Cl w w') ⟨(Lp.Bk.al _ _ _).alo _, Lp.Bk.al1 _ _ _ _, ((HB).alloc _).alloc _⟩ ?_
    clear HB
    rintro v1 ⟨BT, BY, HB⟩
    have kT := BT.cell
    have kY := BY.cell
    have nT0 : (w.heap.size = v1.heap.size) = False := eq_false (by have := BT.lt; omega)
    have mT0 : w.heap.size < v1.heap.size := by have := BT.lt; omega
    have nT1 : (w.heap.size = v1.heap.size + 1) = False := eq_false (by have := BT.lt; omega)
    have mT1 : w.heap.size < v1.heap.size + 1 := by have := BT.lt; omega
    have nY0 : (w.heap.size + 1 = v1.heap.size) = False := eq_false (by have := BY.lt; omega)
    have mY0 : w.heap.size + 1 < v1.heap.size := by have := BY.lt; omega
    have nY1 : (w.heap.size = v1.heap.size) = False := eq_false (by have := BY.lt; omega)
    have mY1 : w.heap.size < v1.heap.size := by have := BY.lt; omega
    apply Lp.wp_region_loose _ _ 11 (by kernel_rfl) (by kernel_rfl) (by kernel_rfl) (Below.refl _ _)
    apply Lp.facts
    · intro w1 hw
      exact And.intro (BT.cl hw).cell ((BY.cl hw).cell)
    intro HF
    iterate 1 (
      apply Lp.one ?_ rfl
      · intro w hw
        obtain ⟨k0, k1⟩ := HF.out _ hw
        go_simp
        exact rfl
      intro K hK
      go_simp
      refine hK.out _ ?_
      clear hK K)
    apply Lp.any rfl
    · intro w hw
      go_simp
      exact Lp.ret (rof_any _ _ _ _ _ _ _ _ _ _)
    intro K hK
    rintro v rfl
    go_simp
    refine hK.out _ ?_
    clear hK K
    iterate 1 (
      apply Lp.one ?_ rfl
      · intro w hw
        obtain ⟨k0, k1⟩ := HF.out _ hw
        go_simp
        exact rfl
      intro K hK
      go_simp
      refine hK.out _ ?_
      clear hK K)
    apply Lp.any rfl
    · intro w hw
      go_simp
      exact Lp.ret (HT.out _)
    intro K hK
    rintro v rfl
    go_simp
    refine hK.out _ ?_
    clear hK K
    iterate 7 (
      apply Lp.one ?_ rfl
      · intro w hw
        obtain ⟨k0, k1⟩ := HF.out _ hw
        go_simp
        exact rfl
      intro K hK
      go_simp
      refine hK.out _ ?_
      clear hK K)
    rotate_left
    exact []
    intro v2 hm
    clear kT kY nT0 mT0 nT1 mT1 nY0 mY0 nY1 mY1
    replace BT := BT.keep hm
    replace BY := BY.keep hm
    replace HB := HB.call hm
    clear hm
    have kT := BT.cell
    have kY := BY.cell
    have nT0 : (w.heap.size = v2.heap.size) = False := eq_false (by have := BT.lt; omega)
    have mT0 : w.heap.size < v2.heap.size := by have := BT.lt; omega
    have nT1 : (w.heap.size = v2.heap.size + 1) = False := eq_false (by have := BT.lt; omega)
    have mT1 : w.heap.size < v2.heap.size + 1 := by have := BT.lt; omega
    have nY0 : (w.heap.size + 1 = v2.heap.size) = False := eq_false (by have := BY.lt; omega)
    have mY0 : w.heap.size + 1 < v2.heap.size := by have := BY.lt; omega
    have nY1 : (w.heap.size = v2.heap.size) = False := eq_false (by have := BY.lt; omega)
    have mY1 : w.heap.size < v2.heap.size := by have := BY.lt; omega
    go_wp2_with fail
    refine Calls.mono (rsub_c _ HSA.out.2.1 HSA.out.1) ?_
    rintro e v3 ⟨v, rfl, ⟨x, y, z, rfl, hx, wx⟩, hm⟩
    clear kT kY nT0 mT0 nT1 mT1 nY0 mY0 nY1 mY1
    replace BT := BT.keep hm
    replace BY := BY.keep hm
    replace HB := HB.call hm
    clear hm
    have kT := BT.cell
    have kY := BY.cell
    have nT0 : (w.heap.size = v3.heap.size) = False := eq_false (by have := BT.lt; omega)
    have mT0 : w.heap.size < v3.heap.size := by have := BT.lt; omega
    have nT1 : (w.heap.size = v3.heap.size + 1) = False := eq_false (by have := BT.lt; omega)
    have mT1 : w.heap.size < v3.heap.size + 1 := by have := BT.lt; omega
    have nY0 : (w.heap.size + 1 = v3.heap.size) = False := eq_false (by have := BY.lt; omega)
    have mY0 : w.heap.size + 1 < v3.heap.size := by have := BY.lt; omega
    have nY1 : (w.heap.size = v3.heap.size) = False := eq_false (by have := BY.lt; omega)
    have mY1 : w.heap.size < v3.heap.size := by have := BY.lt; omega
    go_wp2_with fail
    refine Lp.settleC (fun w' => Lp.Bk w' (w.heap.size) #[.float .f64 A.x, .float .f64 A.y, .float .f64 A.z, .float .f64 B.x, .float .f64 B.y, .float .f64 B.z, .float .f64 C.x, .float .f64 C.y, .float .f64 C.z] 60 ∧ Lp.Bk w' (w.heap.size + 1) #[.float .f64 O.x, .float .f64 O.y, .float .f64 O.z, .float .f64 D.x, .float .f64 D.y, .float .f64 D.z] 27 ∧ Lp.Bk w' (v3.heap.size) #[.float .f64 x, .float .f64 y, .float .f64 z] 25 ∧ Cl w w') ⟨(BT).alo _, (BY).alo _, Lp.Bk.al _ _ _, (HB).alloc _⟩ ?_
    clear kT kY nT0 mT0 nT1 mT1 nY0 mY0 nY1 mY1
    clear BT BY HB
    rintro v4 ⟨BT, BY, BE, HB⟩
    have kT := BT.cell
    have kY := BY.cell
    have kE := BE.cell
    have nT0 : (w.heap.size = v4.heap.size) = False := eq_false (by have := BT.lt; omega)
    have mT0 : w.heap.size < v4.heap.size := by have := BT.lt; omega
    have nT1 : (w.heap.size = v4.heap.size + 1) = False := eq_false (by have := BT.lt; omega)
    have mT1 : w.heap.size < v4.heap.size + 1 := by have := BT.lt; omega
    have nY0 : (w.heap.size + 1 = v4.heap.size) = False := eq_false (by have := BY.lt; omega)
    have mY0 : w.heap.size + 1 < v4.heap.size := by have := BY.lt; omega
    have nY1 : (w.heap.size = v4.heap.size) = False := eq_false (by have := BY.lt; omega)
    have mY1 : w.heap.size < v4.heap.size := by have := BY.lt; omega
    have nE0 : (v3.heap.size = v4.heap.size) = False := eq_false (by have := BE.lt; omega)
    have mE0 : v3.heap.size < v4.heap.size := by have := BE.lt; omega
    have nE1 : (v3.heap.size = v4.heap.size + 1) = False := eq_false (by have := BE.lt; omega)
    have mE1 : v3.heap.size < v4.heap.size + 1 := by have := BE.lt; omega
    refine Calls.mono (rsub_c _ HSA.out.2.2.1 HSA.out.1) ?_
    rintro e v5 ⟨v, rfl, ⟨p, q, r, rfl, hp, wp⟩, hm⟩
    clear kT kY kE nT0 mT0 nT1 mT1 nY0 mY0 nY1 mY1 nE0 mE0 nE1 mE1
    replace BT := BT.keep hm
    replace BY := BY.keep hm
    replace BE := BE.keep hm
    replace HB := HB.call hm
    clear hm
    have kT := BT.cell
    have kY := BY.cell
    have kE := BE.cell
    have nT0 : (w.heap.size = v5.heap.size) = False := eq_false (by have := BT.lt; omega)
    have mT0 : w.heap.size < v5.heap.size := by have := BT.lt; omega
    have nT1 : (w.heap.size = v5.heap.size + 1) = False := eq_false (by have := BT.lt; omega)
    have mT1 : w.heap.size < v5.heap.size + 1 := by have := BT.lt; omega
    have nY0 : (w.heap.size + 1 = v5.heap.size) = False := eq_false (by have := BY.lt; omega)
    have mY0 : w.heap.size + 1 < v5.heap.size := by have := BY.lt; omega
    have nY1 : (w.heap.size = v5.heap.size) = False := eq_false (by have := BY.lt; omega)
    have mY1 : w.heap.size < v5.heap.size := by have := BY.lt; omega
    have nE0 : (v3.heap.size = v5.heap.size) = False := eq_false (by have := BE.lt; omega)
    have mE0 : v3.heap.size < v5.heap.size := by have := BE.lt; omega
    have nE1 : (v3.heap.size = v5.heap.size + 1) = False := eq_false (by have := BE.lt; omega)
    have mE1 : v3.heap.size < v5.heap.size + 1 := by have := BE.lt; omega
    go_wp2_with fail
    refine Lp.settleC (fun w' => Lp.Bk w' (w.heap.size) #[.float .f64 A.x, .float .f64 A.y, .float .f64 A.z, .float .f64 B.x, .float .f64 B.y, .float .f64 B.z, .float .f64 C.x, .float .f64 C.y, .float .f64 C.z] 60 ∧ Lp.Bk w' (w.heap.size + 1) #[.float .f64 O.x, .float .f64 O.y, .float .f64 O.z, .float .f64 D.x, .float .f64 D.y, .float .f64 D.z] 27 ∧ Lp.Bk w' (v3.heap.size) #[.float .f64 x, .float .f64 y, .float .f64 z] 25 ∧ Lp.Bk w' (v5.heap.size) #[.float .f64 p, .float .f64 q, .float .f64 r] 25 ∧ Cl w w') ⟨(BT).alo _, (BY).alo _, (BE).alo _, Lp.Bk.al _ _ _, (HB).alloc _⟩ ?_
    clear kT kY kE nT0 mT0 nT1 mT1 nY0 mY0 nY1 mY1 nE0 mE0 nE1 mE1
    clear BT BY BE HB
    rintro v6 ⟨BT, BY, BE, BF, HB⟩
    have kT := BT.cell
    have kY := BY.cell
    have kE := BE.cell
    have kF := BF.cell
    have nT0 : (w.heap.size = v6.heap.size) = False := eq_false (by have := BT.lt; omega)
    have mT0 : w.heap.size < v6.heap.size := by have := BT.lt; omega
    have nT1 : (w.heap.size = v6.heap.size + 1) = False := eq_false (by have := BT.lt; omega)
    have mT1 : w.heap.size < v6.heap.size + 1 := by have := BT.lt; omega
    have nY0 : (w.heap.size + 1 = v6.heap.size) = False := eq_false (by have := BY.lt; omega)
    have mY0 : w.heap.size + 1 < v6.heap.size := by have := BY.lt; omega
    have nY1 : (w.heap.size = v6.heap.size) = False := eq_false (by have := BY.lt; omega)
    have mY1 : w.heap.size < v6.heap.size := by have := BY.lt; omega
    have nE0 : (v3.heap.size = v6.heap.size) = False := eq_false (by have := BE.lt; omega)
    have mE0 : v3.heap.size < v6.heap.size := by have := BE.lt; omega
    have nE1 : (v3.heap.size = v6.heap.size + 1) = False := eq_false (by have := BE.lt; omega)
    have mE1 : v3.heap.size < v6.heap.size + 1 := by have := BE.lt; omega
    have nF0 : (v5.heap.size = v6.heap.size) = False := eq_false (by have := BF.lt; omega)
    have mF0 : v5.heap.size < v6.heap.size := by have := BF.lt; omega
    have nF1 : (v5.heap.size = v6.heap.size + 1) = False := eq_false (by have := BF.lt; omega)
    have mF1 : v5.heap.size < v6.heap.size + 1 := by have := BF.lt; omega
    refine Calls.mono (rcross_c _ HSA.out.2.2.2.2 hp) ?_
    rintro e v7 ⟨v, rfl, ⟨x1, y1, z1, rfl, h1, w1⟩, hm⟩
    clear kT kY kE kF nT0 mT0 nT1 mT1 nY0 mY0 nY1 mY1 nE0 mE0 nE1 mE1 nF0 mF0 nF1 mF1
    replace BT := BT.keep hm
    replace BY := BY.keep hm
    replace BE := BE.keep hm
    replace BF := BF.keep hm
    replace HB := HB.call hm
    clear hm
    have kT := BT.cell
    have kY := BY.cell
    have kE := BE.cell
    have kF := BF.cell
    have nT0 : (w.heap.size = v7.heap.size) = False := eq_false (by have := BT.lt; omega)
    have mT0 : w.heap.size < v7.heap.size := by have := BT.lt; omega
    have nT1 : (w.heap.size = v7.heap.size + 1) = False := eq_false (by have := BT.lt; omega)
    have mT1 : w.heap.size < v7.heap.size + 1 := by have := BT.lt; omega
    have nY0 : (w.heap.size + 1 = v7.heap.size) = False := eq_false (by have := BY.lt; omega)
    have mY0 : w.heap.size + 1 < v7.heap.size := by have := BY.lt; omega
    have nY1 : (w.heap.size = v7.heap.size) = False := eq_false (by have := BY.lt; omega)
    have mY1 : w.heap.size < v7.heap.size := by have := BY.lt; omega
    have nE0 : (v3.heap.size = v7.heap.size) = False := eq_false (by have := BE.lt; omega)
    have mE0 : v3.heap.size < v7.heap.size := by have := BE.lt; omega
    have nE1 : (v3.heap.size = v7.heap.size + 1) = False := eq_false (by have := BE.lt; omega)
    have mE1 : v3.heap.size < v7.heap.size + 1 := by have := BE.lt; omega
    have nF0 : (v5.heap.size = v7.heap.size) = False := eq_false (by have := BF.lt; omega)
    have mF0 : v5.heap.size < v7.heap.size := by have := BF.lt; omega
    have nF1 : (v5.heap.size = v7.heap.size + 1) = False := eq_false (by have := BF.lt; omega)
    have mF1 : v5.heap.size < v7.heap.size + 1 := by have := BF.lt; omega
    go_wp2_with fail
    refine Lp.settleC (fun w' => Lp.Bk w' (w.heap.size) #[.float .f64 A.x, .float .f64 A.y, .float .f64 A.z, .float .f64 B.x, .float .f64 B.y, .float .f64 B.z, .float .f64 C.x, .float .f64 C.y, .float .f64 C.z] 60 ∧ Lp.Bk w' (w.heap.size + 1) #[.float .f64 O.x, .float .f64 O.y, .float .f64 O.z, .float .f64 D.x, .float .f64 D.y, .float .f64 D.z] 27 ∧ Lp.Bk w' (v3.heap.size) #[.float .f64 x, .float .f64 y, .float .f64 z] 25 ∧ Lp.Bk w' (v5.heap.size) #[.float .f64 p, .float .f64 q, .float .f64 r] 25 ∧ Lp.Bk w' (v7.heap.size) #[.float .f64 x1, .float .f64 y1, .float .f64 z1] 25 ∧ Cl w w') ⟨(BT).alo _, (BY).alo _, (BE).alo _, (BF).alo _, Lp.Bk.al _ _ _, (HB).alloc _⟩ ?_
    clear kT kY kE kF nT0 mT0 nT1 mT1 nY0 mY0 nY1 mY1 nE0 mE0 nE1 mE1 nF0 mF0 nF1 mF1
    clear BT BY BE BF HB
    rintro v8 ⟨BT, BY, BE, BF, BP, HB⟩
    have kT := BT.cell
    have kY := BY.cell
    have kE := BE.cell
    have kF := BF.cell
    have kP := BP.cell
    have nT0 : (w.heap.size = v8.heap.size) = False := eq_false (by have := BT.lt; omega)
    have mT0 : w.heap.size < v8.heap.size := by have := BT.lt; omega
    have nT1 : (w.heap.size = v8.heap.size + 1) = False := eq_false (by have := BT.lt; omega)
    have mT1 : w.heap.size < v8.heap.size + 1 := by have := BT.lt; omega
    have nY0 : (w.heap.size + 1 = v8.heap.size) = False := eq_false (by have := BY.lt; omega)
    have mY0 : w.heap.size + 1 < v8.heap.size := by have := BY.lt; omega
    have nY1 : (w.heap.size = v8.heap.size) = False := eq_false (by have := BY.lt; omega)
    have mY1 : w.heap.size < v8.heap.size := by have := BY.lt; omega
    have nE0 : (v3.heap.size = v8.heap.size) = False := eq_false (by have := BE.lt; omega)
    have mE0 : v3.heap.size < v8.heap.size := by have := BE.lt; omega
    have nE1 : (v3.heap.size = v8.heap.size + 1) = False := eq_false (by have := BE.lt; omega)
    have mE1 : v3.heap.size < v8.heap.size + 1 := by have := BE.lt; omega
    have nF0 : (v5.heap.size = v8.heap.size) = False := eq_false (by have := BF.lt; omega)
    have mF0 : v5.heap.size < v8.heap.size := by have := BF.lt; omega
    have nF1 : (v5.heap.size = v8.heap.size + 1) = False := eq_false (by have := BF.lt; omega)
    have mF1 : v5.heap.size < v8.heap.size + 1 := by have := BF.lt; omega
    have nP0 : (v7.heap.size = v8.heap.size) = False := eq_false (by have := BP.lt; omega)
    have mP0 : v7.heap.size < v8.heap.size := by have := BP.lt; omega
    have nP1 : (v7.heap.size = v8.heap.size + 1) = False := eq_false (by have := BP.lt; omega)
    have mP1 : v7.heap.size < v8.heap.size + 1 := by have := BP.lt; omega
    refine Calls.mono (rdot_c _ hx h1) ?_
    rintro e v9 ⟨v, rfl, ⟨d, rfl, hd⟩, hm⟩
    clear kT kY kE kF kP nT0 mT0 nT1 mT1 nY0 mY0 nY1 mY1 nE0 mE0 nE1 mE1 nF0 mF0 nF1 mF1 nP0 mP0 nP1 mP1
    replace BT := BT.keep hm
    replace BY := BY.keep hm
    replace BE := BE.keep hm
    replace BF := BF.keep hm
    replace BP := BP.keep hm
    replace HB := HB.call hm
    clear hm
    have kT := BT.cell
    have kY := BY.cell
    have kE := BE.cell
    have kF := BF.cell
    have kP := BP.cell
    have nT0 : (w.heap.size = v9.heap.size) = False := eq_false (by have := BT.lt; omega)
    have mT0 : w.heap.size < v9.heap.size := by have := BT.lt; omega
    have nT1 : (w.heap.size = v9.heap.size + 1) = False := eq_false (by have := BT.lt; omega)
    have mT1 : w.heap.size < v9.heap.size + 1 := by have := BT.lt; omega
    have nY0 : (w.heap.size + 1 = v9.heap.size) = False := eq_false (by have := BY.lt; omega)
    have mY0 : w.heap.size + 1 < v9.heap.size := by have := BY.lt; omega
    have nY1 : (w.heap.size = v9.heap.size) = False := eq_false (by have := BY.lt; omega)
    have mY1 : w.heap.size < v9.heap.size := by have := BY.lt; omega
    have nE0 : (v3.heap.size = v9.heap.size) = False := eq_false (by have := BE.lt; omega)
    have mE0 : v3.heap.size < v9.heap.size := by have := BE.lt; omega
    have nE1 : (v3.heap.size = v9.heap.size + 1) = False := eq_false (by have := BE.lt; omega)
    have mE1 : v3.heap.size < v9.heap.size + 1 := by have := BE.lt; omega
    have nF0 : (v5.heap.size = v9.heap.size) = False := eq_false (by have := BF.lt; omega)
    have mF0 : v5.heap.size < v9.heap.size := by have := BF.lt; omega
    have nF1 : (v5.heap.size = v9.heap.size + 1) = False := eq_false (by have := BF.lt; omega)
    have mF1 : v5.heap.size < v9.heap.size + 1 := by have := BF.lt; omega
    have nP0 : (v7.heap.size = v9.heap.size) = False := eq_false (by have := BP.lt; omega)
    have mP0 : v7.heap.size < v9.heap.size := by have := BP.lt; omega
    have nP1 : (v7.heap.size = v9.heap.size + 1) = False := eq_false (by have := BP.lt; omega)
    have mP1 : v7.heap.size < v9.heap.size + 1 := by have := BP.lt; omega
    go_wp2_with fail
    exact bodyPost_ret (v := .tuple #[.float .f64 0, .float .f64 0, .float .f64 0, .bool false]) (by simp [results, go_sem]) rfl ⟨_, rfl, by rw [HM.out]; rfl, HB⟩
  · simp only [outT] at HT HM
    have HD := hid (show okd (detF A B C D) = false → hitB n f (cutT A B C O D) (cutU A B C O D) (cutV A B C O D) = false from fun h => hit_det h)
    have HL := hid (fun d (h : Sm d (detF A B C D)) => lt_w h (Sm.refl 0))
    have HG := hid (fun d (h : Sm d (detF A B C D)) => gt_w h (Sm.refl 0))
    have HO := hid (show okd (detF A B C D) = (ltC (detF A B C D) 0 || gtC (detF A B C D) 0) from rfl)
    have HR := hid (hit_ref n f (cutT A B C O D) (cutU A B C O D) (cutV A B C O D))
    have G1 := hid (fun u (h : Sm u (cutU A B C O D)) => ge_w h (Sm.refl 0))
    have G2 := hid (fun u (h : Sm u (cutU A B C O D)) => le_w h (Sm.refl 4607182418800017408))
    have G3 := hid (fun v (h : Sm v (cutV A B C O D)) => ge_w h (Sm.refl 0))
    have G4 := hid (fun s (h : Sm s (fadd (cutU A B C O D) (cutV A B C O D))) => le_w h (Sm.refl 4607182418800017408))
    have G5 := hid (fun t (h : Sm t (cutT A B C O D)) => ge_w h (Sm.refl n))
    have G6 := hid (fun t (h : Sm t (cutT A B C O D)) => le_w h (Sm.refl f))
    have G7 := hid (fun t (h : Sm t (cutT A B C O D)) => gt_w h (Sm.refl 0))
    have HW := hid (fun t u z (h : S3 t u z ⟨cutT A B C O D, cutU A B C O D, cutV A B C O D⟩) (k : hitB n f (cutT A B C O D) (cutU A B C O D) (cutV A B C O D) = true) => hit_words k h)
    generalize okd (detF A B C D) = k at HD HO
    generalize ltC (detF A B C D) 0 = k1 at HL HO
    generalize gtC (detF A B C D) 0 = k2 at HG HO
    generalize hitB n f (cutT A B C O D) (cutU A B C O D) (cutV A B C O D) = H at HM HD HR HW
    generalize geB (cutU A B C O D) 0 = b1 at G1 HR
    generalize leB (cutU A B C O D) 4607182418800017408 = b2 at G2 HR
    generalize geB (cutV A B C O D) 0 = b3 at G3 HR
    generalize leB (fadd (cutU A B C O D) (cutV A B C O D)) 4607182418800017408 = b4 at G4 HR
    generalize geB (cutT A B C O D) n = b5 at G5 HR
    generalize leB (cutT A B C O D) f = b6 at G6 HR
    generalize gtC (cutT A B C O D) 0 = b7 at G7 HR
    go_enter Tryz.func24, Tryz.ntmps24
    go_wp2_with fail
    refine Lp.settle (fun w' => Lp.Bk w' (w.heap.size) #[.float .f64 A.x, .float .f64 A.y, .float .f64 A.z, .float .f64 B.x, .float .f64 B.y, .float .f64 B.z, .float .f64 C.x, .float .f64 C.y, .float .f64 C.z] 60 ∧ Lp.Bk w' (w.heap.size + 1) #[.float .f64 O.x, .float .f64 O.y, .float .f64 O.z, .float .f64 D.x, .float .f64 D.y, .float .f64 D.z] 27 ∧ Cl w w') ⟨(Lp.Bk.al _ _ _).alo _, Lp.Bk.al1 _ _ _ _, ((HB).alloc _).alloc _⟩ ?_
    clear HB
    rintro v1 ⟨BT, BY, HB⟩
    have kT := BT.cell
    have kY := BY.cell
    have nT0 : (w.heap.size = v1.heap.size) = False := eq_false (by have := BT.lt; omega)
    have mT0 : w.heap.size < v1.heap.size := by have := BT.lt; omega
    have nT1 : (w.heap.size = v1.heap.size + 1) = False := eq_false (by have := BT.lt; omega)
    have mT1 : w.heap.size < v1.heap.size + 1 := by have := BT.lt; omega
    have nY0 : (w.heap.size + 1 = v1.heap.size) = False := eq_false (by have := BY.lt; omega)
    have mY0 : w.heap.size + 1 < v1.heap.size := by have := BY.lt; omega
    have nY1 : (w.heap.size = v1.heap.size) = False := eq_false (by have := BY.lt; omega)
    have mY1 : w.heap.size < v1.heap.size := by have := BY.lt; omega
    apply Lp.wp_region_loose _ _ 11 (by kernel_rfl) (by kernel_rfl) (by kernel_rfl) (Below.refl _ _)
    apply Lp.facts
    · intro w1 hw
      exact And.intro (BT.cl hw).cell ((BY.cl hw).cell)
    intro HF
    iterate 1 (
      apply Lp.one ?_ rfl
      · intro w hw
        obtain ⟨k0, k1⟩ := HF.out _ hw
        go_simp
        exact rfl
      intro K hK
      go_simp
      refine hK.out _ ?_
      clear hK K)
    apply Lp.any rfl
    · intro w hw
      go_simp
      exact Lp.ret (rof_any _ _ _ _ _ _ _ _ _ _)
    intro K hK
    rintro v rfl
    go_simp
    refine hK.out _ ?_
    clear hK K
    iterate 1 (
      apply Lp.one ?_ rfl
      · intro w hw
        obtain ⟨k0, k1⟩ := HF.out _ hw
        go_simp
        exact rfl
      intro K hK
      go_simp
      refine hK.out _ ?_
      clear hK K)
    apply Lp.any rfl
    · intro w hw
      go_simp
      exact Lp.ret (HT.out _)
    intro K hK
    rintro v rfl
    go_simp
    refine hK.out _ ?_
    clear hK K
    iterate 7 (
      apply Lp.one ?_ rfl
      · intro w hw
        obtain ⟨k0, k1⟩ := HF.out _ hw
        go_simp
        exact rfl
      intro K hK
      go_simp
      refine hK.out _ ?_
      clear hK K)
    rotate_left
    exact []
    intro v2 hm
    clear kT kY nT0 mT0 nT1 mT1 nY0 mY0 nY1 mY1
    replace BT := BT.keep hm
    replace BY := BY.keep hm
    replace HB := HB.call hm
    clear hm
    have kT := BT.cell
    have kY := BY.cell
    have nT0 : (w.heap.size = v2.heap.size) = False := eq_false (by have := BT.lt; omega)
    have mT0 : w.heap.size < v2.heap.size := by have := BT.lt; omega
    have nT1 : (w.heap.size = v2.heap.size + 1) = False := eq_false (by have := BT.lt; omega)
    have mT1 : w.heap.size < v2.heap.size + 1 := by have := BT.lt; omega
    have nY0 : (w.heap.size + 1 = v2.heap.size) = False := eq_false (by have := BY.lt; omega)
    have mY0 : w.heap.size + 1 < v2.heap.size := by have := BY.lt; omega
    have nY1 : (w.heap.size = v2.heap.size) = False := eq_false (by have := BY.lt; omega)
    have mY1 : w.heap.size < v2.heap.size := by have := BY.lt; omega
    go_wp2_with fail
    refine Calls.mono (rsub_c _ HSA.out.2.1 HSA.out.1) ?_
    rintro e v3 ⟨v, rfl, ⟨x, y, z, rfl, hx, wx⟩, hm⟩
    clear kT kY nT0 mT0 nT1 mT1 nY0 mY0 nY1 mY1
    replace BT := BT.keep hm
    replace BY := BY.keep hm
    replace HB := HB.call hm
    clear hm
    have kT := BT.cell
    have kY := BY.cell
    have nT0 : (w.heap.size = v3.heap.size) = False := eq_false (by have := BT.lt; omega)
    have mT0 : w.heap.size < v3.heap.size := by have := BT.lt; omega
    have nT1 : (w.heap.size = v3.heap.size + 1) = False := eq_false (by have := BT.lt; omega)
    have mT1 : w.heap.size < v3.heap.size + 1 := by have := BT.lt; omega
    have nY0 : (w.heap.size + 1 = v3.heap.size) = False := eq_false (by have := BY.lt; omega)
    have mY0 : w.heap.size + 1 < v3.heap.size := by have := BY.lt; omega
    have nY1 : (w.heap.size = v3.heap.size) = False := eq_false (by have := BY.lt; omega)
    have mY1 : w.heap.size < v3.heap.size := by have := BY.lt; omega
    go_wp2_with fail
    refine Lp.settleC (fun w' => Lp.Bk w' (w.heap.size) #[.float .f64 A.x, .float .f64 A.y, .float .f64 A.z, .float .f64 B.x, .float .f64 B.y, .float .f64 B.z, .float .f64 C.x, .float .f64 C.y, .float .f64 C.z] 60 ∧ Lp.Bk w' (w.heap.size + 1) #[.float .f64 O.x, .float .f64 O.y, .float .f64 O.z, .float .f64 D.x, .float .f64 D.y, .float .f64 D.z] 27 ∧ Lp.Bk w' (v3.heap.size) #[.float .f64 x, .float .f64 y, .float .f64 z] 25 ∧ Cl w w') ⟨(BT).alo _, (BY).alo _, Lp.Bk.al _ _ _, (HB).alloc _⟩ ?_
    clear kT kY nT0 mT0 nT1 mT1 nY0 mY0 nY1 mY1
    clear BT BY HB
    rintro v4 ⟨BT, BY, BE, HB⟩
    have kT := BT.cell
    have kY := BY.cell
    have kE := BE.cell
    have nT0 : (w.heap.size = v4.heap.size) = False := eq_false (by have := BT.lt; omega)
    have mT0 : w.heap.size < v4.heap.size := by have := BT.lt; omega
    have nT1 : (w.heap.size = v4.heap.size + 1) = False := eq_false (by have := BT.lt; omega)
    have mT1 : w.heap.size < v4.heap.size + 1 := by have := BT.lt; omega
    have nY0 : (w.heap.size + 1 = v4.heap.size) = False := eq_false (by have := BY.lt; omega)
    have mY0 : w.heap.size + 1 < v4.heap.size := by have := BY.lt; omega
    have nY1 : (w.heap.size = v4.heap.size) = False := eq_false (by have := BY.lt; omega)
    have mY1 : w.heap.size < v4.heap.size := by have := BY.lt; omega
    have nE0 : (v3.heap.size = v4.heap.size) = False := eq_false (by have := BE.lt; omega)
    have mE0 : v3.heap.size < v4.heap.size := by have := BE.lt; omega
    have nE1 : (v3.heap.size = v4.heap.size + 1) = False := eq_false (by have := BE.lt; omega)
    have mE1 : v3.heap.size < v4.heap.size + 1 := by have := BE.lt; omega
    refine Calls.mono (rsub_c _ HSA.out.2.2.1 HSA.out.1) ?_
    rintro e v5 ⟨v, rfl, ⟨p, q, r, rfl, hp, wp⟩, hm⟩
    clear kT kY kE nT0 mT0 nT1 mT1 nY0 mY0 nY1 mY1 nE0 mE0 nE1 mE1
    replace BT := BT.keep hm
    replace BY := BY.keep hm
    replace BE := BE.keep hm
    replace HB := HB.call hm
    clear hm
    have kT := BT.cell
    have kY := BY.cell
    have kE := BE.cell
    have nT0 : (w.heap.size = v5.heap.size) = False := eq_false (by have := BT.lt; omega)
    have mT0 : w.heap.size < v5.heap.size := by have := BT.lt; omega
    have nT1 : (w.heap.size = v5.heap.size + 1) = False := eq_false (by have := BT.lt; omega)
    have mT1 : w.heap.size < v5.heap.size + 1 := by have := BT.lt; omega
    have nY0 : (w.heap.size + 1 = v5.heap.size) = False := eq_false (by have := BY.lt; omega)
    have mY0 : w.heap.size + 1 < v5.heap.size := by have := BY.lt; omega
    have nY1 : (w.heap.size = v5.heap.size) = False := eq_false (by have := BY.lt; omega)
    have mY1 : w.heap.size < v5.heap.size := by have := BY.lt; omega
    have nE0 : (v3.heap.size = v5.heap.size) = False := eq_false (by have := BE.lt; omega)
    have mE0 : v3.heap.size < v5.heap.size := by have := BE.lt; omega
    have nE1 : (v3.heap.size = v5.heap.size + 1) = False := eq_false (by have := BE.lt; omega)
    have mE1 : v3.heap.size < v5.heap.size + 1 := by have := BE.lt; omega
    go_wp2_with fail
    refine Lp.settleC (fun w' => Lp.Bk w' (w.heap.size) #[.float .f64 A.x, .float .f64 A.y, .float .f64 A.z, .float .f64 B.x, .float .f64 B.y, .float .f64 B.z, .float .f64 C.x, .float .f64 C.y, .float .f64 C.z] 60 ∧ Lp.Bk w' (w.heap.size + 1) #[.float .f64 O.x, .float .f64 O.y, .float .f64 O.z, .float .f64 D.x, .float .f64 D.y, .float .f64 D.z] 27 ∧ Lp.Bk w' (v3.heap.size) #[.float .f64 x, .float .f64 y, .float .f64 z] 25 ∧ Lp.Bk w' (v5.heap.size) #[.float .f64 p, .float .f64 q, .float .f64 r] 25 ∧ Cl w w') ⟨(BT).alo _, (BY).alo _, (BE).alo _, Lp.Bk.al _ _ _, (HB).alloc _⟩ ?_
    clear kT kY kE nT0 mT0 nT1 mT1 nY0 mY0 nY1 mY1 nE0 mE0 nE1 mE1
    clear BT BY BE HB
    rintro v6 ⟨BT, BY, BE, BF, HB⟩
    have kT := BT.cell
    have kY := BY.cell
    have kE := BE.cell
    have kF := BF.cell
    have nT0 : (w.heap.size = v6.heap.size) = False := eq_false (by have := BT.lt; omega)
    have mT0 : w.heap.size < v6.heap.size := by have := BT.lt; omega
    have nT1 : (w.heap.size = v6.heap.size + 1) = False := eq_false (by have := BT.lt; omega)
    have mT1 : w.heap.size < v6.heap.size + 1 := by have := BT.lt; omega
    have nY0 : (w.heap.size + 1 = v6.heap.size) = False := eq_false (by have := BY.lt; omega)
    have mY0 : w.heap.size + 1 < v6.heap.size := by have := BY.lt; omega
    have nY1 : (w.heap.size = v6.heap.size) = False := eq_false (by have := BY.lt; omega)
    have mY1 : w.heap.size < v6.heap.size := by have := BY.lt; omega
    have nE0 : (v3.heap.size = v6.heap.size) = False := eq_false (by have := BE.lt; omega)
    have mE0 : v3.heap.size < v6.heap.size := by have := BE.lt; omega
    have nE1 : (v3.heap.size = v6.heap.size + 1) = False := eq_false (by have := BE.lt; omega)
    have mE1 : v3.heap.size < v6.heap.size + 1 := by have := BE.lt; omega
    have nF0 : (v5.heap.size = v6.heap.size) = False := eq_false (by have := BF.lt; omega)
    have mF0 : v5.heap.size < v6.heap.size := by have := BF.lt; omega
    have nF1 : (v5.heap.size = v6.heap.size + 1) = False := eq_false (by have := BF.lt; omega)
    have mF1 : v5.heap.size < v6.heap.size + 1 := by have := BF.lt; omega
    refine Calls.mono (rcross_c _ HSA.out.2.2.2.2 hp) ?_
    rintro e v7 ⟨v, rfl, ⟨x1, y1, z1, rfl, h1, w1⟩, hm⟩
    clear kT kY kE kF nT0 mT0 nT1 mT1 nY0 mY0 nY1 mY1 nE0 mE0 nE1 mE1 nF0 mF0 nF1 mF1
    replace BT := BT.keep hm
    replace BY := BY.keep hm
    replace BE := BE.keep hm
    replace BF := BF.keep hm
    replace HB := HB.call hm
    clear hm
    have kT := BT.cell
    have kY := BY.cell
    have kE := BE.cell
    have kF := BF.cell
    have nT0 : (w.heap.size = v7.heap.size) = False := eq_false (by have := BT.lt; omega)
    have mT0 : w.heap.size < v7.heap.size := by have := BT.lt; omega
    have nT1 : (w.heap.size = v7.heap.size + 1) = False := eq_false (by have := BT.lt; omega)
    have mT1 : w.heap.size < v7.heap.size + 1 := by have := BT.lt; omega
    have nY0 : (w.heap.size + 1 = v7.heap.size) = False := eq_false (by have := BY.lt; omega)
    have mY0 : w.heap.size + 1 < v7.heap.size := by have := BY.lt; omega
    have nY1 : (w.heap.size = v7.heap.size) = False := eq_false (by have := BY.lt; omega)
    have mY1 : w.heap.size < v7.heap.size := by have := BY.lt; omega
    have nE0 : (v3.heap.size = v7.heap.size) = False := eq_false (by have := BE.lt; omega)
    have mE0 : v3.heap.size < v7.heap.size := by have := BE.lt; omega
    have nE1 : (v3.heap.size = v7.heap.size + 1) = False := eq_false (by have := BE.lt; omega)
    have mE1 : v3.heap.size < v7.heap.size + 1 := by have := BE.lt; omega
    have nF0 : (v5.heap.size = v7.heap.size) = False := eq_false (by have := BF.lt; omega)
    have mF0 : v5.heap.size < v7.heap.size := by have := BF.lt; omega
    have nF1 : (v5.heap.size = v7.heap.size + 1) = False := eq_false (by have := BF.lt; omega)
    have mF1 : v5.heap.size < v7.heap.size + 1 := by have := BF.lt; omega
    go_wp2_with fail
    refine Lp.settleC (fun w' => Lp.Bk w' (w.heap.size) #[.float .f64 A.x, .float .f64 A.y, .float .f64 A.z, .float .f64 B.x, .float .f64 B.y, .float .f64 B.z, .float .f64 C.x, .float .f64 C.y, .float .f64 C.z] 60 ∧ Lp.Bk w' (w.heap.size + 1) #[.float .f64 O.x, .float .f64 O.y, .float .f64 O.z, .float .f64 D.x, .float .f64 D.y, .float .f64 D.z] 27 ∧ Lp.Bk w' (v3.heap.size) #[.float .f64 x, .float .f64 y, .float .f64 z] 25 ∧ Lp.Bk w' (v5.heap.size) #[.float .f64 p, .float .f64 q, .float .f64 r] 25 ∧ Lp.Bk w' (v7.heap.size) #[.float .f64 x1, .float .f64 y1, .float .f64 z1] 25 ∧ Cl w w') ⟨(BT).alo _, (BY).alo _, (BE).alo _, (BF).alo _, Lp.Bk.al _ _ _, (HB).alloc _⟩ ?_
    clear kT kY kE kF nT0 mT0 nT1 mT1 nY0 mY0 nY1 mY1 nE0 mE0 nE1 mE1 nF0 mF0 nF1 mF1
    clear BT BY BE BF HB
    rintro v8 ⟨BT, BY, BE, BF, BP, HB⟩
    have kT := BT.cell
    have kY := BY.cell
    have kE := BE.cell
    have kF := BF.cell
    have kP := BP.cell
    have nT0 : (w.heap.size = v8.heap.size) = False := eq_false (by have := BT.lt; omega)
    have mT0 : w.heap.size < v8.heap.size := by have := BT.lt; omega
    have nT1 : (w.heap.size = v8.heap.size + 1) = False := eq_false (by have := BT.lt; omega)
    have mT1 : w.heap.size < v8.heap.size + 1 := by have := BT.lt; omega
    have nY0 : (w.heap.size + 1 = v8.heap.size) = False := eq_false (by have := BY.lt; omega)
    have mY0 : w.heap.size + 1 < v8.heap.size := by have := BY.lt; omega
    have nY1 : (w.heap.size = v8.heap.size) = False := eq_false (by have := BY.lt; omega)
    have mY1 : w.heap.size < v8.heap.size := by have := BY.lt; omega
    have nE0 : (v3.heap.size = v8.heap.size) = False := eq_false (by have := BE.lt; omega)
    have mE0 : v3.heap.size < v8.heap.size := by have := BE.lt; omega
    have nE1 : (v3.heap.size = v8.heap.size + 1) = False := eq_false (by have := BE.lt; omega)
    have mE1 : v3.heap.size < v8.heap.size + 1 := by have := BE.lt; omega
    have nF0 : (v5.heap.size = v8.heap.size) = False := eq_false (by have := BF.lt; omega)
    have mF0 : v5.heap.size < v8.heap.size := by have := BF.lt; omega
    have nF1 : (v5.heap.size = v8.heap.size + 1) = False := eq_false (by have := BF.lt; omega)
    have mF1 : v5.heap.size < v8.heap.size + 1 := by have := BF.lt; omega
    have nP0 : (v7.heap.size = v8.heap.size) = False := eq_false (by have := BP.lt; omega)
    have mP0 : v7.heap.size < v8.heap.size := by have := BP.lt; omega
    have nP1 : (v7.heap.size = v8.heap.size + 1) = False := eq_false (by have := BP.lt; omega)
    have mP1 : v7.heap.size < v8.heap.size + 1 := by have := BP.lt; omega
    refine Calls.mono (rdot_c _ hx h1) ?_
    rintro e v9 ⟨v, rfl, ⟨d, rfl, hd⟩, hm⟩
    clear kT kY kE kF kP nT0 mT0 nT1 mT1 nY0 mY0 nY1 mY1 nE0 mE0 nE1 mE1 nF0 mF0 nF1 mF1 nP0 mP0 nP1 mP1
    replace BT := BT.keep hm
    replace BY := BY.keep hm
    replace BE := BE.keep hm
    replace BF := BF.keep hm
    replace BP := BP.keep hm
    replace HB := HB.call hm
    clear hm
    have kT := BT.cell
    have kY := BY.cell
    have kE := BE.cell
    have kF := BF.cell
    have kP := BP.cell
    have nT0 : (w.heap.size = v9.heap.size) = False := eq_false (by have := BT.lt; omega)
    have mT0 : w.heap.size < v9.heap.size := by have := BT.lt; omega
    have nT1 : (w.heap.size = v9.heap.size + 1) = False := eq_false (by have := BT.lt; omega)
    have mT1 : w.heap.size < v9.heap.size + 1 := by have := BT.lt; omega
    have nY0 : (w.heap.size + 1 = v9.heap.size) = False := eq_false (by have := BY.lt; omega)
    have mY0 : w.heap.size + 1 < v9.heap.size := by have := BY.lt; omega
    have nY1 : (w.heap.size = v9.heap.size) = False := eq_false (by have := BY.lt; omega)
    have mY1 : w.heap.size < v9.heap.size := by have := BY.lt; omega
    have nE0 : (v3.heap.size = v9.heap.size) = False := eq_false (by have := BE.lt; omega)
    have mE0 : v3.heap.size < v9.heap.size := by have := BE.lt; omega
    have nE1 : (v3.heap.size = v9.heap.size + 1) = False := eq_false (by have := BE.lt; omega)
    have mE1 : v3.heap.size < v9.heap.size + 1 := by have := BE.lt; omega
    have nF0 : (v5.heap.size = v9.heap.size) = False := eq_false (by have := BF.lt; omega)
    have mF0 : v5.heap.size < v9.heap.size := by have := BF.lt; omega
    have nF1 : (v5.heap.size = v9.heap.size + 1) = False := eq_false (by have := BF.lt; omega)
    have mF1 : v5.heap.size < v9.heap.size + 1 := by have := BF.lt; omega
    have nP0 : (v7.heap.size = v9.heap.size) = False := eq_false (by have := BP.lt; omega)
    have mP0 : v7.heap.size < v9.heap.size := by have := BP.lt; omega
    have nP1 : (v7.heap.size = v9.heap.size + 1) = False := eq_false (by have := BP.lt; omega)
    have mP1 : v7.heap.size < v9.heap.size + 1 := by have := BP.lt; omega
    have l1 := HL.out d hd.sm
    have l2 := HG.out d hd.sm
    clear HL HG
    cases k1
    rotate_left
    rotate_left
    cases k2
    · go_wp2_with fail
      exact bodyPost_ret (v := .tuple #[.float .f64 0, .float .f64 0, .float .f64 0, .bool false]) (by simp [results, go_sem]) rfl ⟨_, rfl, by rw [HM.out, HD.out (by rw [HO.out]; rfl)]; rfl, HB⟩
    all_goals
      go_wp2_with fail
      refine upon_div (Sm.refl _) hd.sm ?_
      intro i ni hi
      go_wp2_with fail
      refine Lp.settleC (fun w' => Lp.Bk w' (w.heap.size) #[.float .f64 A.x, .float .f64 A.y, .float .f64 A.z, .float .f64 B.x, .float .f64 B.y, .float .f64 B.z, .float .f64 C.x, .float .f64 C.y, .float .f64 C.z] 60 ∧ Lp.Bk w' (w.heap.size + 1) #[.float .f64 O.x, .float .f64 O.y, .float .f64 O.z, .float .f64 D.x, .float .f64 D.y, .float .f64 D.z] 27 ∧ Lp.Bk w' (v3.heap.size) #[.float .f64 x, .float .f64 y, .float .f64 z] 25 ∧ Lp.Bk w' (v5.heap.size) #[.float .f64 p, .float .f64 q, .float .f64 r] 25 ∧ Lp.Bk w' (v7.heap.size) #[.float .f64 x1, .float .f64 y1, .float .f64 z1] 25 ∧ Cl w w') ⟨BT.dr _, BY.dr _, BE.dr _, BF.dr _, BP.dr _, HB.drewN _⟩ ?_
      clear kT kY kE kF kP nT0 mT0 nT1 mT1 nY0 mY0 nY1 mY1 nE0 mE0 nE1 mE1 nF0 mF0 nF1 mF1 nP0 mP0 nP1 mP1
      clear BT BY BE BF BP HB
      rintro v10 ⟨BT, BY, BE, BF, BP, HB⟩
      have kT := BT.cell
      have kY := BY.cell
      have kE := BE.cell
      have kF := BF.cell
      have kP := BP.cell
      have nT0 : (w.heap.size = v10.heap.size) = False := eq_false (by have := BT.lt; omega)
      have mT0 : w.heap.size < v10.heap.size := by have := BT.lt; omega
      have nT1 : (w.heap.size = v10.heap.size + 1) = False := eq_false (by have := BT.lt; omega)
      have mT1 : w.heap.size < v10.heap.size + 1 := by have := BT.lt; omega
      have nY0 : (w.heap.size + 1 = v10.heap.size) = False := eq_false (by have := BY.lt; omega)
      have mY0 : w.heap.size + 1 < v10.heap.size := by have := BY.lt; omega
      have nY1 : (w.heap.size = v10.heap.size) = False := eq_false (by have := BY.lt; omega)
      have mY1 : w.heap.size < v10.heap.size := by have := BY.lt; omega
      have nE0 : (v3.heap.size = v10.heap.size) = False := eq_false (by have := BE.lt; omega)
      have mE0 : v3.heap.size < v10.heap.size := by have := BE.lt; omega
      have nE1 : (v3.heap.size = v10.heap.size + 1) = False := eq_false (by have := BE.lt; omega)
      have mE1 : v3.heap.size < v10.heap.size + 1 := by have := BE.lt; omega
      have nF0 : (v5.heap.size = v10.heap.size) = False := eq_false (by have := BF.lt; omega)
      have mF0 : v5.heap.size < v10.heap.size := by have := BF.lt; omega
      have nF1 : (v5.heap.size = v10.heap.size + 1) = False := eq_false (by have := BF.lt; omega)
      have mF1 : v5.heap.size < v10.heap.size + 1 := by have := BF.lt; omega
      have nP0 : (v7.heap.size = v10.heap.size) = False := eq_false (by have := BP.lt; omega)
      have mP0 : v7.heap.size < v10.heap.size := by have := BP.lt; omega
      have nP1 : (v7.heap.size = v10.heap.size + 1) = False := eq_false (by have := BP.lt; omega)
      have mP1 : v7.heap.size < v10.heap.size + 1 := by have := BP.lt; omega
      refine Calls.mono (rsub_c _ HSA.out.2.2.2.1 HSA.out.1) ?_
      rintro e v11 ⟨v, rfl, ⟨x2, y2, z2, rfl, h2, w2⟩, hm⟩
      clear kT kY kE kF kP nT0 mT0 nT1 mT1 nY0 mY0 nY1 mY1 nE0 mE0 nE1 mE1 nF0 mF0 nF1 mF1 nP0 mP0 nP1 mP1
      replace BT := BT.keep hm
      replace BY := BY.keep hm
      replace BE := BE.keep hm
      replace BF := BF.keep hm
      replace BP := BP.keep hm
      replace HB := HB.call hm
      clear hm
      have kT := BT.cell
      have kY := BY.cell
      have kE := BE.cell
      have kF := BF.cell
      have kP := BP.cell
      have nT0 : (w.heap.size = v11.heap.size) = False := eq_false (by have := BT.lt; omega)
      have mT0 : w.heap.size < v11.heap.size := by have := BT.lt; omega
      have nT1 : (w.heap.size = v11.heap.size + 1) = False := eq_false (by have := BT.lt; omega)
      have mT1 : w.heap.size < v11.heap.size + 1 := by have := BT.lt; omega
      have nY0 : (w.heap.size + 1 = v11.heap.size) = False := eq_false (by have := BY.lt; omega)
      have mY0 : w.heap.size + 1 < v11.heap.size := by have := BY.lt; omega
      have nY1 : (w.heap.size = v11.heap.size) = False := eq_false (by have := BY.lt; omega)
      have mY1 : w.heap.size < v11.heap.size := by have := BY.lt; omega
      have nE0 : (v3.heap.size = v11.heap.size) = False := eq_false (by have := BE.lt; omega)
      have mE0 : v3.heap.size < v11.heap.size := by have := BE.lt; omega
      have nE1 : (v3.heap.size = v11.heap.size + 1) = False := eq_false (by have := BE.lt; omega)
      have mE1 : v3.heap.size < v11.heap.size + 1 := by have := BE.lt; omega
      have nF0 : (v5.heap.size = v11.heap.size) = False := eq_false (by have := BF.lt; omega)
      have mF0 : v5.heap.size < v11.heap.size := by have := BF.lt; omega
      have nF1 : (v5.heap.size = v11.heap.size + 1) = False := eq_false (by have := BF.lt; omega)
      have mF1 : v5.heap.size < v11.heap.size + 1 := by have := BF.lt; omega
      have nP0 : (v7.heap.size = v11.heap.size) = False := eq_false (by have := BP.lt; omega)
      have mP0 : v7.heap.size < v11.heap.size := by have := BP.lt; omega
      have nP1 : (v7.heap.size = v11.heap.size + 1) = False := eq_false (by have := BP.lt; omega)
      have mP1 : v7.heap.size < v11.heap.size + 1 := by have := BP.lt; omega
      go_wp2_with fail
      refine Lp.settleC (fun w' => Lp.Bk w' (w.heap.size) #[.float .f64 A.x, .float .f64 A.y, .float .f64 A.z, .float .f64 B.x, .float .f64 B.y, .float .f64 B.z, .float .f64 C.x, .float .f64 C.y, .float .f64 C.z] 60 ∧ Lp.Bk w' (w.heap.size + 1) #[.float .f64 O.x, .float .f64 O.y, .float .f64 O.z, .float .f64 D.x, .float .f64 D.y, .float .f64 D.z] 27 ∧ Lp.Bk w' (v3.heap.size) #[.float .f64 x, .float .f64 y, .float .f64 z] 25 ∧ Lp.Bk w' (v5.heap.size) #[.float .f64 p, .float .f64 q, .float .f64 r] 25 ∧ Lp.Bk w' (v7.heap.size) #[.float .f64 x1, .float .f64 y1, .float .f64 z1] 25 ∧ Lp.Bk w' (v11.heap.size) #[.float .f64 x2, .float .f64 y2, .float .f64 z2] 25 ∧ Cl w w') ⟨(BT).alo _, (BY).alo _, (BE).alo _, (BF).alo _, (BP).alo _, Lp.Bk.al _ _ _, (HB).alloc _⟩ ?_
      clear kT kY kE kF kP nT0 mT0 nT1 mT1 nY0 mY0 nY1 mY1 nE0 mE0 nE1 mE1 nF0 mF0 nF1 mF1 nP0 mP0 nP1 mP1
      clear BT BY BE BF BP HB
      rintro v12 ⟨BT, BY, BE, BF, BP, BS, HB⟩
      have kT := BT.cell
      have kY := BY.cell
      have kE := BE.cell
      have kF := BF.cell
      have kP := BP.cell
      have kS := BS.cell
      have nT0 : (w.heap.size = v12.heap.size) = False := eq_false (by have := BT.lt; omega)
      have mT0 : w.heap.size < v12.heap.size := by have := BT.lt; omega
      have nT1 : (w.heap.size = v12.heap.size + 1) = False := eq_false (by have := BT.lt; omega)
      have mT1 : w.heap.size < v12.heap.size + 1 := by have := BT.lt; omega
      have nY0 : (w.heap.size + 1 = v12.heap.size) = False := eq_false (by have := BY.lt; omega)
      have mY0 : w.heap.size + 1 < v12.heap.size := by have := BY.lt; omega
      have nY1 : (w.heap.size = v12.heap.size) = False := eq_false (by have := BY.lt; omega)
      have mY1 : w.heap.size < v12.heap.size := by have := BY.lt; omega
      have nE0 : (v3.heap.size = v12.heap.size) = False := eq_false (by have := BE.lt; omega)
      have mE0 : v3.heap.size < v12.heap.size := by have := BE.lt; omega
      have nE1 : (v3.heap.size = v12.heap.size + 1) = False := eq_false (by have := BE.lt; omega)
      have mE1 : v3.heap.size < v12.heap.size + 1 := by have := BE.lt; omega
      have nF0 : (v5.heap.size = v12.heap.size) = False := eq_false (by have := BF.lt; omega)
      have mF0 : v5.heap.size < v12.heap.size := by have := BF.lt; omega
      have nF1 : (v5.heap.size = v12.heap.size + 1) = False := eq_false (by have := BF.lt; omega)
      have mF1 : v5.heap.size < v12.heap.size + 1 := by have := BF.lt; omega
      have nP0 : (v7.heap.size = v12.heap.size) = False := eq_false (by have := BP.lt; omega)
      have mP0 : v7.heap.size < v12.heap.size := by have := BP.lt; omega
      have nP1 : (v7.heap.size = v12.heap.size + 1) = False := eq_false (by have := BP.lt; omega)
      have mP1 : v7.heap.size < v12.heap.size + 1 := by have := BP.lt; omega
      have nS0 : (v11.heap.size = v12.heap.size) = False := eq_false (by have := BS.lt; omega)
      have mS0 : v11.heap.size < v12.heap.size := by have := BS.lt; omega
      have nS1 : (v11.heap.size = v12.heap.size + 1) = False := eq_false (by have := BS.lt; omega)
      have mS1 : v11.heap.size < v12.heap.size + 1 := by have := BS.lt; omega
      refine Calls.mono (rcross_c _ h2 hx) ?_
      rintro e v13 ⟨v, rfl, ⟨x3, y3, z3, rfl, h3, w3⟩, hm⟩
      clear kT kY kE kF kP kS nT0 mT0 nT1 mT1 nY0 mY0 nY1 mY1 nE0 mE0 nE1 mE1 nF0 mF0 nF1 mF1 nP0 mP0 nP1 mP1 nS0 mS0 nS1 mS1
      replace BT := BT.keep hm
      replace BY := BY.keep hm
      replace BE := BE.keep hm
      replace BF := BF.keep hm
      replace BP := BP.keep hm
      replace BS := BS.keep hm
      replace HB := HB.call hm
      clear hm
      have kT := BT.cell
      have kY := BY.cell
      have kE := BE.cell
      have kF := BF.cell
      have kP := BP.cell
      have kS := BS.cell
      have nT0 : (w.heap.size = v13.heap.size) = False := eq_false (by have := BT.lt; omega)
      have mT0 : w.heap.size < v13.heap.size := by have := BT.lt; omega
      have nT1 : (w.heap.size = v13.heap.size + 1) = False := eq_false (by have := BT.lt; omega)
      have mT1 : w.heap.size < v13.heap.size + 1 := by have := BT.lt; omega
      have nY0 : (w.heap.size + 1 = v13.heap.size) = False := eq_false (by have := BY.lt; omega)
      have mY0 : w.heap.size + 1 < v13.heap.size := by have := BY.lt; omega
      have nY1 : (w.heap.size = v13.heap.size) = False := eq_false (by have := BY.lt; omega)
      have mY1 : w.heap.size < v13.heap.size := by have := BY.lt; omega
      have nE0 : (v3.heap.size = v13.heap.size) = False := eq_false (by have := BE.lt; omega)
      have mE0 : v3.heap.size < v13.heap.size := by have := BE.lt; omega
      have nE1 : (v3.heap.size = v13.heap.size + 1) = False := eq_false (by have := BE.lt; omega)
      have mE1 : v3.heap.size < v13.heap.size + 1 := by have := BE.lt; omega
      have nF0 : (v5.heap.size = v13.heap.size) = False := eq_false (by have := BF.lt; omega)
      have mF0 : v5.heap.size < v13.heap.size := by have := BF.lt; omega
      have nF1 : (v5.heap.size = v13.heap.size + 1) = False := eq_false (by have := BF.lt; omega)
      have mF1 : v5.heap.size < v13.heap.size + 1 := by have := BF.lt; omega
      have nP0 : (v7.heap.size = v13.heap.size) = False := eq_false (by have := BP.lt; omega)
      have mP0 : v7.heap.size < v13.heap.size := by have := BP.lt; omega
      have nP1 : (v7.heap.size = v13.heap.size + 1) = False := eq_false (by have := BP.lt; omega)
      have mP1 : v7.heap.size < v13.heap.size + 1 := by have := BP.lt; omega
      have nS0 : (v11.heap.size = v13.heap.size) = False := eq_false (by have := BS.lt; omega)
      have mS0 : v11.heap.size < v13.heap.size := by have := BS.lt; omega
      have nS1 : (v11.heap.size = v13.heap.size + 1) = False := eq_false (by have := BS.lt; omega)
      have mS1 : v11.heap.size < v13.heap.size + 1 := by have := BS.lt; omega
      go_wp2_with fail
      refine Lp.settleC (fun w' => Lp.Bk w' (w.heap.size) #[.float .f64 A.x, .float .f64 A.y, .float .f64 A.z, .float .f64 B.x, .float .f64 B.y, .float .f64 B.z, .float .f64 C.x, .float .f64 C.y, .float .f64 C.z] 60 ∧ Lp.Bk w' (w.heap.size + 1) #[.float .f64 O.x, .float .f64 O.y, .float .f64 O.z, .float .f64 D.x, .float .f64 D.y, .float .f64 D.z] 27 ∧ Lp.Bk w' (v3.heap.size) #[.float .f64 x, .float .f64 y, .float .f64 z] 25 ∧ Lp.Bk w' (v5.heap.size) #[.float .f64 p, .float .f64 q, .float .f64 r] 25 ∧ Lp.Bk w' (v7.heap.size) #[.float .f64 x1, .float .f64 y1, .float .f64 z1] 25 ∧ Lp.Bk w' (v11.heap.size) #[.float .f64 x2, .float .f64 y2, .float .f64 z2] 25 ∧ Lp.Bk w' (v13.heap.size) #[.float .f64 x3, .float .f64 y3, .float .f64 z3] 25 ∧ Cl w w') ⟨(BT).alo _, (BY).alo _, (BE).alo _, (BF).alo _, (BP).alo _, (BS).alo _, Lp.Bk.al _ _ _, (HB).alloc _⟩ ?_
      clear kT kY kE kF kP kS nT0 mT0 nT1 mT1 nY0 mY0 nY1 mY1 nE0 mE0 nE1 mE1 nF0 mF0 nF1 mF1 nP0 mP0 nP1 mP1 nS0 mS0 nS1 mS1
      clear BT BY BE BF BP BS HB
      rintro v14 ⟨BT, BY, BE, BF, BP, BS, BQ, HB⟩
      have kT := BT.cell
      have kY := BY.cell
      have kE := BE.cell
      have kF := BF.cell
      have kP := BP.cell
      have kS := BS.cell
      have kQ := BQ.cell
      have nT0 : (w.heap.size = v14.heap.size) = False := eq_false (by have := BT.lt; omega)
      have mT0 : w.heap.size < v14.heap.size := by have := BT.lt; omega
      have nT1 : (w.heap.size = v14.heap.size + 1) = False := eq_false (by have := BT.lt; omega)
      have mT1 : w.heap.size < v14.heap.size + 1 := by have := BT.lt; omega
      have nY0 : (w.heap.size + 1 = v14.heap.size) = False := eq_false (by have := BY.lt; omega)
      have mY0 : w.heap.size + 1 < v14.heap.size := by have := BY.lt; omega
      have nY1 : (w.heap.size = v14.heap.size) = False := eq_false (by have := BY.lt; omega)
      have mY1 : w.heap.size < v14.heap.size := by have := BY.lt; omega
      have nE0 : (v3.heap.size = v14.heap.size) = False := eq_false (by have := BE.lt; omega)
      have mE0 : v3.heap.size < v14.heap.size := by have := BE.lt; omega
      have nE1 : (v3.heap.size = v14.heap.size + 1) = False := eq_false (by have := BE.lt; omega)
      have mE1 : v3.heap.size < v14.heap.size + 1 := by have := BE.lt; omega
      have nF0 : (v5.heap.size = v14.heap.size) = False := eq_false (by have := BF.lt; omega)
      have mF0 : v5.heap.size < v14.heap.size := by have := BF.lt; omega
      have nF1 : (v5.heap.size = v14.heap.size + 1) = False := eq_false (by have := BF.lt; omega)
      have mF1 : v5.heap.size < v14.heap.size + 1 := by have := BF.lt; omega
      have nP0 : (v7.heap.size = v14.heap.size) = False := eq_false (by have := BP.lt; omega)
      have mP0 : v7.heap.size < v14.heap.size := by have := BP.lt; omega
      have nP1 : (v7.heap.size = v14.heap.size + 1) = False := eq_false (by have := BP.lt; omega)
      have mP1 : v7.heap.size < v14.heap.size + 1 := by have := BP.lt; omega
      have nS0 : (v11.heap.size = v14.heap.size) = False := eq_false (by have := BS.lt; omega)
      have mS0 : v11.heap.size < v14.heap.size := by have := BS.lt; omega
      have nS1 : (v11.heap.size = v14.heap.size + 1) = False := eq_false (by have := BS.lt; omega)
      have mS1 : v11.heap.size < v14.heap.size + 1 := by have := BS.lt; omega
      have nQ0 : (v13.heap.size = v14.heap.size) = False := eq_false (by have := BQ.lt; omega)
      have mQ0 : v13.heap.size < v14.heap.size := by have := BQ.lt; omega
      have nQ1 : (v13.heap.size = v14.heap.size + 1) = False := eq_false (by have := BQ.lt; omega)
      have mQ1 : v13.heap.size < v14.heap.size + 1 := by have := BQ.lt; omega
      refine Calls.mono (rdot_c _ h2 h1) ?_
      rintro e v15 ⟨v, rfl, ⟨d1, rfl, k1⟩, hm⟩
      clear kT kY kE kF kP kS kQ nT0 mT0 nT1 mT1 nY0 mY0 nY1 mY1 nE0 mE0 nE1 mE1 nF0 mF0 nF1 mF1 nP0 mP0 nP1 mP1 nS0 mS0 nS1 mS1 nQ0 mQ0 nQ1 mQ1
      replace BT := BT.keep hm
      replace BY := BY.keep hm
      replace BE := BE.keep hm
      replace BF := BF.keep hm
      replace BP := BP.keep hm
      replace BS := BS.keep hm
      replace BQ := BQ.keep hm
      replace HB := HB.call hm
      clear hm
      have kT := BT.cell
      have kY := BY.cell
      have kE := BE.cell
      have kF := BF.cell
      have kP := BP.cell
      have kS := BS.cell
      have kQ := BQ.cell
      have nT0 : (w.heap.size = v15.heap.size) = False := eq_false (by have := BT.lt; omega)
      have mT0 : w.heap.size < v15.heap.size := by have := BT.lt; omega
      have nT1 : (w.heap.size = v15.heap.size + 1) = False := eq_false (by have := BT.lt; omega)
      have mT1 : w.heap.size < v15.heap.size + 1 := by have := BT.lt; omega
      have nY0 : (w.heap.size + 1 = v15.heap.size) = False := eq_false (by have := BY.lt; omega)
      have mY0 : w.heap.size + 1 < v15.heap.size := by have := BY.lt; omega
      have nY1 : (w.heap.size = v15.heap.size) = False := eq_false (by have := BY.lt; omega)
      have mY1 : w.heap.size < v15.heap.size := by have := BY.lt; omega
      have nE0 : (v3.heap.size = v15.heap.size) = False := eq_false (by have := BE.lt; omega)
      have mE0 : v3.heap.size < v15.heap.size := by have := BE.lt; omega
      have nE1 : (v3.heap.size = v15.heap.size + 1) = False := eq_false (by have := BE.lt; omega)
      have mE1 : v3.heap.size < v15.heap.size + 1 := by have := BE.lt; omega
      have nF0 : (v5.heap.size = v15.heap.size) = False := eq_false (by have := BF.lt; omega)
      have mF0 : v5.heap.size < v15.heap.size := by have := BF.lt; omega
      have nF1 : (v5.heap.size = v15.heap.size + 1) = False := eq_false (by have := BF.lt; omega)
      have mF1 : v5.heap.size < v15.heap.size + 1 := by have := BF.lt; omega
      have nP0 : (v7.heap.size = v15.heap.size) = False := eq_false (by have := BP.lt; omega)
      have mP0 : v7.heap.size < v15.heap.size := by have := BP.lt; omega
      have nP1 : (v7.heap.size = v15.heap.size + 1) = False := eq_false (by have := BP.lt; omega)
      have mP1 : v7.heap.size < v15.heap.size + 1 := by have := BP.lt; omega
      have nS0 : (v11.heap.size = v15.heap.size) = False := eq_false (by have := BS.lt; omega)
      have mS0 : v11.heap.size < v15.heap.size := by have := BS.lt; omega
      have nS1 : (v11.heap.size = v15.heap.size + 1) = False := eq_false (by have := BS.lt; omega)
      have mS1 : v11.heap.size < v15.heap.size + 1 := by have := BS.lt; omega
      have nQ0 : (v13.heap.size = v15.heap.size) = False := eq_false (by have := BQ.lt; omega)
      have mQ0 : v13.heap.size < v15.heap.size := by have := BQ.lt; omega
      have nQ1 : (v13.heap.size = v15.heap.size + 1) = False := eq_false (by have := BQ.lt; omega)
      have mQ1 : v13.heap.size < v15.heap.size + 1 := by have := BQ.lt; omega
      go_wp2_with fail
      refine upon_mul k1.sm hi.sm ?_
      intro u nu hu
      go_wp2_with fail
      refine Lp.settleC (fun w' => Lp.Bk w' (w.heap.size) #[.float .f64 A.x, .float .f64 A.y, .float .f64 A.z, .float .f64 B.x, .float .f64 B.y, .float .f64 B.z, .float .f64 C.x, .float .f64 C.y, .float .f64 C.z] 60 ∧ Lp.Bk w' (w.heap.size + 1) #[.float .f64 O.x, .float .f64 O.y, .float .f64 O.z, .float .f64 D.x, .float .f64 D.y, .float .f64 D.z] 27 ∧ Lp.Bk w' (v3.heap.size) #[.float .f64 x, .float .f64 y, .float .f64 z] 25 ∧ Lp.Bk w' (v5.heap.size) #[.float .f64 p, .float .f64 q, .float .f64 r] 25 ∧ Lp.Bk w' (v7.heap.size) #[.float .f64 x1, .float .f64 y1, .float .f64 z1] 25 ∧ Lp.Bk w' (v11.heap.size) #[.float .f64 x2, .float .f64 y2, .float .f64 z2] 25 ∧ Lp.Bk w' (v13.heap.size) #[.float .f64 x3, .float .f64 y3, .float .f64 z3] 25 ∧ Cl w w') ⟨BT.dr _, BY.dr _, BE.dr _, BF.dr _, BP.dr _, BS.dr _, BQ.dr _, HB.drewN _⟩ ?_
      clear kT kY kE kF kP kS kQ nT0 mT0 nT1 mT1 nY0 mY0 nY1 mY1 nE0 mE0 nE1 mE1 nF0 mF0 nF1 mF1 nP0 mP0 nP1 mP1 nS0 mS0 nS1 mS1 nQ0 mQ0 nQ1 mQ1
      clear BT BY BE BF BP BS BQ HB
      rintro v16 ⟨BT, BY, BE, BF, BP, BS, BQ, HB⟩
      have kT := BT.cell
      have kY := BY.cell
      have kE := BE.cell
      have kF := BF.cell
      have kP := BP.cell
      have kS := BS.cell
      have kQ := BQ.cell
      have nT0 : (w.heap.size = v16.heap.size) = False := eq_false (by have := BT.lt; omega)
      have mT0 : w.heap.size < v16.heap.size := by have := BT.lt; omega
      have nT1 : (w.heap.size = v16.heap.size + 1) = False := eq_false (by have := BT.lt; omega)
      have mT1 : w.heap.size < v16.heap.size + 1 := by have := BT.lt; omega
      have nY0 : (w.heap.size + 1 = v16.heap.size) = False := eq_false (by have := BY.lt; omega)
      have mY0 : w.heap.size + 1 < v16.heap.size := by have := BY.lt; omega
      have nY1 : (w.heap.size = v16.heap.size) = False := eq_false (by have := BY.lt; omega)
      have mY1 : w.heap.size < v16.heap.size := by have := BY.lt; omega
      have nE0 : (v3.heap.size = v16.heap.size) = False := eq_false (by have := BE.lt; omega)
      have mE0 : v3.heap.size < v16.heap.size := by have := BE.lt; omega
      have nE1 : (v3.heap.size = v16.heap.size + 1) = False := eq_false (by have := BE.lt; omega)
      have mE1 : v3.heap.size < v16.heap.size + 1 := by have := BE.lt; omega
      have nF0 : (v5.heap.size = v16.heap.size) = False := eq_false (by have := BF.lt; omega)
      have mF0 : v5.heap.size < v16.heap.size := by have := BF.lt; omega
      have nF1 : (v5.heap.size = v16.heap.size + 1) = False := eq_false (by have := BF.lt; omega)
      have mF1 : v5.heap.size < v16.heap.size + 1 := by have := BF.lt; omega
      have nP0 : (v7.heap.size = v16.heap.size) = False := eq_false (by have := BP.lt; omega)
      have mP0 : v7.heap.size < v16.heap.size := by have := BP.lt; omega
      have nP1 : (v7.heap.size = v16.heap.size + 1) = False := eq_false (by have := BP.lt; omega)
      have mP1 : v7.heap.size < v16.heap.size + 1 := by have := BP.lt; omega
      have nS0 : (v11.heap.size = v16.heap.size) = False := eq_false (by have := BS.lt; omega)
      have mS0 : v11.heap.size < v16.heap.size := by have := BS.lt; omega
      have nS1 : (v11.heap.size = v16.heap.size + 1) = False := eq_false (by have := BS.lt; omega)
      have mS1 : v11.heap.size < v16.heap.size + 1 := by have := BS.lt; omega
      have nQ0 : (v13.heap.size = v16.heap.size) = False := eq_false (by have := BQ.lt; omega)
      have mQ0 : v13.heap.size < v16.heap.size := by have := BQ.lt; omega
      have nQ1 : (v13.heap.size = v16.heap.size + 1) = False := eq_false (by have := BQ.lt; omega)
      have mQ1 : v13.heap.size < v16.heap.size + 1 := by have := BQ.lt; omega
      refine Calls.mono (rdot_c _ HSA.out.2.2.2.2 h3) ?_
      rintro e v17 ⟨v, rfl, ⟨d2, rfl, k2⟩, hm⟩
      clear kT kY kE kF kP kS kQ nT0 mT0 nT1 mT1 nY0 mY0 nY1 mY1 nE0 mE0 nE1 mE1 nF0 mF0 nF1 mF1 nP0 mP0 nP1 mP1 nS0 mS0 nS1 mS1 nQ0 mQ0 nQ1 mQ1
      replace BT := BT.keep hm
      replace BY := BY.keep hm
      replace BE := BE.keep hm
      replace BF := BF.keep hm
      replace BP := BP.keep hm
      replace BS := BS.keep hm
      replace BQ := BQ.keep hm
      replace HB := HB.call hm
      clear hm
      have kT := BT.cell
      have kY := BY.cell
      have kE := BE.cell
      have kF := BF.cell
      have kP := BP.cell
      have kS := BS.cell
      have kQ := BQ.cell
      have nT0 : (w.heap.size = v17.heap.size) = False := eq_false (by have := BT.lt; omega)
      have mT0 : w.heap.size < v17.heap.size := by have := BT.lt; omega
      have nT1 : (w.heap.size = v17.heap.size + 1) = False := eq_false (by have := BT.lt; omega)
      have mT1 : w.heap.size < v17.heap.size + 1 := by have := BT.lt; omega
      have nY0 : (w.heap.size + 1 = v17.heap.size) = False := eq_false (by have := BY.lt; omega)
      have mY0 : w.heap.size + 1 < v17.heap.size := by have := BY.lt; omega
      have nY1 : (w.heap.size = v17.heap.size) = False := eq_false (by have := BY.lt; omega)
      have mY1 : w.heap.size < v17.heap.size := by have := BY.lt; omega
      have nE0 : (v3.heap.size = v17.heap.size) = False := eq_false (by have := BE.lt; omega)
      have mE0 : v3.heap.size < v17.heap.size := by have := BE.lt; omega
      have nE1 : (v3.heap.size = v17.heap.size + 1) = False := eq_false (by have := BE.lt; omega)
      have mE1 : v3.heap.size < v17.heap.size + 1 := by have := BE.lt; omega
      have nF0 : (v5.heap.size = v17.heap.size) = False := eq_false (by have := BF.lt; omega)
      have mF0 : v5.heap.size < v17.heap.size := by have := BF.lt; omega
      have nF1 : (v5.heap.size = v17.heap.size + 1) = False := eq_false (by have := BF.lt; omega)
      have mF1 : v5.heap.size < v17.heap.size + 1 := by have := BF.lt; omega
      have nP0 : (v7.heap.size = v17.heap.size) = False := eq_false (by have := BP.lt; omega)
      have mP0 : v7.heap.size < v17.heap.size := by have := BP.lt; omega
      have nP1 : (v7.heap.size = v17.heap.size + 1) = False := eq_false (by have := BP.lt; omega)
      have mP1 : v7.heap.size < v17.heap.size + 1 := by have := BP.lt; omega
      have nS0 : (v11.heap.size = v17.heap.size) = False := eq_false (by have := BS.lt; omega)
      have mS0 : v11.heap.size < v17.heap.size := by have := BS.lt; omega
      have nS1 : (v11.heap.size = v17.heap.size + 1) = False := eq_false (by have := BS.lt; omega)
      have mS1 : v11.heap.size < v17.heap.size + 1 := by have := BS.lt; omega
      have nQ0 : (v13.heap.size = v17.heap.size) = False := eq_false (by have := BQ.lt; omega)
      have mQ0 : v13.heap.size < v17.heap.size := by have := BQ.lt; omega
      have nQ1 : (v13.heap.size = v17.heap.size + 1) = False := eq_false (by have := BQ.lt; omega)
      have mQ1 : v13.heap.size < v17.heap.size + 1 := by have := BQ.lt; omega
      go_wp2_with fail
      refine upon_mul k2.sm hi.sm ?_
      intro v nv hv
      go_wp2_with fail
      refine Lp.settleC (fun w' => Lp.Bk w' (w.heap.size) #[.float .f64 A.x, .float .f64 A.y, .float .f64 A.z, .float .f64 B.x, .float .f64 B.y, .float .f64 B.z, .float .f64 C.x, .float .f64 C.y, .float .f64 C.z] 60 ∧ Lp.Bk w' (w.heap.size + 1) #[.float .f64 O.x, .float .f64 O.y, .float .f64 O.z, .float .f64 D.x, .float .f64 D.y, .float .f64 D.z] 27 ∧ Lp.Bk w' (v3.heap.size) #[.float .f64 x, .float .f64 y, .float .f64 z] 25 ∧ Lp.Bk w' (v5.heap.size) #[.float .f64 p, .float .f64 q, .float .f64 r] 25 ∧ Lp.Bk w' (v7.heap.size) #[.float .f64 x1, .float .f64 y1, .float .f64 z1] 25 ∧ Lp.Bk w' (v11.heap.size) #[.float .f64 x2, .float .f64 y2, .float .f64 z2] 25 ∧ Lp.Bk w' (v13.heap.size) #[.float .f64 x3, .float .f64 y3, .float .f64 z3] 25 ∧ Cl w w') ⟨BT.dr _, BY.dr _, BE.dr _, BF.dr _, BP.dr _, BS.dr _, BQ.dr _, HB.drewN _⟩ ?_
      clear kT kY kE kF kP kS kQ nT0 mT0 nT1 mT1 nY0 mY0 nY1 mY1 nE0 mE0 nE1 mE1 nF0 mF0 nF1 mF1 nP0 mP0 nP1 mP1 nS0 mS0 nS1 mS1 nQ0 mQ0 nQ1 mQ1
      clear BT BY BE BF BP BS BQ HB
      rintro v18 ⟨BT, BY, BE, BF, BP, BS, BQ, HB⟩
      have kT := BT.cell
      have kY := BY.cell
      have kE := BE.cell
      have kF := BF.cell
      have kP := BP.cell
      have kS := BS.cell
      have kQ := BQ.cell
      have nT0 : (w.heap.size = v18.heap.size) = False := eq_false (by have := BT.lt; omega)
      have mT0 : w.heap.size < v18.heap.size := by have := BT.lt; omega
      have nT1 : (w.heap.size = v18.heap.size + 1) = False := eq_false (by have := BT.lt; omega)
      have mT1 : w.heap.size < v18.heap.size + 1 := by have := BT.lt; omega
      have nY0 : (w.heap.size + 1 = v18.heap.size) = False := eq_false (by have := BY.lt; omega)
      have mY0 : w.heap.size + 1 < v18.heap.size := by have := BY.lt; omega
      have nY1 : (w.heap.size = v18.heap.size) = False := eq_false (by have := BY.lt; omega)
      have mY1 : w.heap.size < v18.heap.size := by have := BY.lt; omega
      have nE0 : (v3.heap.size = v18.heap.size) = False := eq_false (by have := BE.lt; omega)
      have mE0 : v3.heap.size < v18.heap.size := by have := BE.lt; omega
      have nE1 : (v3.heap.size = v18.heap.size + 1) = False := eq_false (by have := BE.lt; omega)
      have mE1 : v3.heap.size < v18.heap.size + 1 := by have := BE.lt; omega
      have nF0 : (v5.heap.size = v18.heap.size) = False := eq_false (by have := BF.lt; omega)
      have mF0 : v5.heap.size < v18.heap.size := by have := BF.lt; omega
      have nF1 : (v5.heap.size = v18.heap.size + 1) = False := eq_false (by have := BF.lt; omega)
      have mF1 : v5.heap.size < v18.heap.size + 1 := by have := BF.lt; omega
      have nP0 : (v7.heap.size = v18.heap.size) = False := eq_false (by have := BP.lt; omega)
      have mP0 : v7.heap.size < v18.heap.size := by have := BP.lt; omega
      have nP1 : (v7.heap.size = v18.heap.size + 1) = False := eq_false (by have := BP.lt; omega)
      have mP1 : v7.heap.size < v18.heap.size + 1 := by have := BP.lt; omega
      have nS0 : (v11.heap.size = v18.heap.size) = False := eq_false (by have := BS.lt; omega)
      have mS0 : v11.heap.size < v18.heap.size := by have := BS.lt; omega
      have nS1 : (v11.heap.size = v18.heap.size + 1) = False := eq_false (by have := BS.lt; omega)
      have mS1 : v11.heap.size < v18.heap.size + 1 := by have := BS.lt; omega
      have nQ0 : (v13.heap.size = v18.heap.size) = False := eq_false (by have := BQ.lt; omega)
      have mQ0 : v13.heap.size < v18.heap.size := by have := BQ.lt; omega
      have nQ1 : (v13.heap.size = v18.heap.size + 1) = False := eq_false (by have := BQ.lt; omega)
      have mQ1 : v13.heap.size < v18.heap.size + 1 := by have := BQ.lt; omega
      refine Calls.mono (rdot_c _ hp h3) ?_
      rintro e v19 ⟨v, rfl, ⟨d3, rfl, k3⟩, hm⟩
      clear kT kY kE kF kP kS kQ nT0 mT0 nT1 mT1 nY0 mY0 nY1 mY1 nE0 mE0 nE1 mE1 nF0 mF0 nF1 mF1 nP0 mP0 nP1 mP1 nS0 mS0 nS1 mS1 nQ0 mQ0 nQ1 mQ1
      replace BT := BT.keep hm
      replace BY := BY.keep hm
      replace BE := BE.keep hm
      replace BF := BF.keep hm
      replace BP := BP.keep hm
      replace BS := BS.keep hm
      replace BQ := BQ.keep hm
      replace HB := HB.call hm
      clear hm
      have kT := BT.cell
      have kY := BY.cell
      have kE := BE.cell
      have kF := BF.cell
      have kP := BP.cell
      have kS := BS.cell
      have kQ := BQ.cell
      have nT0 : (w.heap.size = v19.heap.size) = False := eq_false (by have := BT.lt; omega)
      have mT0 : w.heap.size < v19.heap.size := by have := BT.lt; omega
      have nT1 : (w.heap.size = v19.heap.size + 1) = False := eq_false (by have := BT.lt; omega)
      have mT1 : w.heap.size < v19.heap.size + 1 := by have := BT.lt; omega
      have nY0 : (w.heap.size + 1 = v19.heap.size) = False := eq_false (by have := BY.lt; omega)
      have mY0 : w.heap.size + 1 < v19.heap.size := by have := BY.lt; omega
      have nY1 : (w.heap.size = v19.heap.size) = False := eq_false (by have := BY.lt; omega)
      have mY1 : w.heap.size < v19.heap.size := by have := BY.lt; omega
      have nE0 : (v3.heap.size = v19.heap.size) = False := eq_false (by have := BE.lt; omega)
      have mE0 : v3.heap.size < v19.heap.size := by have := BE.lt; omega
      have nE1 : (v3.heap.size = v19.heap.size + 1) = False := eq_false (by have := BE.lt; omega)
      have mE1 : v3.heap.size < v19.heap.size + 1 := by have := BE.lt; omega
      have nF0 : (v5.heap.size = v19.heap.size) = False := eq_false (by have := BF.lt; omega)
      have mF0 : v5.heap.size < v19.heap.size := by have := BF.lt; omega
      have nF1 : (v5.heap.size = v19.heap.size + 1) = False := eq_false (by have := BF.lt; omega)
      have mF1 : v5.heap.size < v19.heap.size + 1 := by have := BF.lt; omega
      have nP0 : (v7.heap.size = v19.heap.size) = False := eq_false (by have := BP.lt; omega)
      have mP0 : v7.heap.size < v19.heap.size := by have := BP.lt; omega
      have nP1 : (v7.heap.size = v19.heap.size + 1) = False := eq_false (by have := BP.lt; omega)
      have mP1 : v7.heap.size < v19.heap.size + 1 := by have := BP.lt; omega
      have nS0 : (v11.heap.size = v19.heap.size) = False := eq_false (by have := BS.lt; omega)
      have mS0 : v11.heap.size < v19.heap.size := by have := BS.lt; omega
      have nS1 : (v11.heap.size = v19.heap.size + 1) = False := eq_false (by have := BS.lt; omega)
      have mS1 : v11.heap.size < v19.heap.size + 1 := by have := BS.lt; omega
      have nQ0 : (v13.heap.size = v19.heap.size) = False := eq_false (by have := BQ.lt; omega)
      have mQ0 : v13.heap.size < v19.heap.size := by have := BQ.lt; omega
      have nQ1 : (v13.heap.size = v19.heap.size + 1) = False := eq_false (by have := BQ.lt; omega)
      have mQ1 : v13.heap.size < v19.heap.size + 1 := by have := BQ.lt; omega
      go_wp2_with fail
      have hu1 := hid hu
      have hv1 := hid hv
      clear hu hv
      refine upon_mul k3.sm hi.sm ?_
      intro t nt ht
      have HB0 := hid HB
      have HB : Cl w (v19.drewN nt) := HB0.out.drewN nt
      have g1 := G1.out u hu1.out.sm
      have g2 := G2.out u hu1.out.sm
      have g3 := G3.out v hv1.out.sm
      have g5 := G5.out t ht.sm
      have g6 := G6.out t ht.sm
      have g7 := G7.out t ht.sm
      have ht1 := hid ht
      clear G1 G2 G3 G5 G6 G7 ht
      cases b1
      rotate_left
      cases b2
      rotate_left
      cases b3
      rotate_left
      · go_wp2_with fail
        refine upon_add hu1.out.sm hv1.out.sm ?_
        intro m nm hm
        have g4 := G4.out m hm.sm
        have HB := HB0.out.drewN (nt + nm)
        clear G4
        cases b4
        rotate_left
        cases b5
        rotate_left
        cases b6
        rotate_left
        cases b7
        rotate_left
        · go_wp2_with fail
          obtain ⟨e1, e2, e3⟩ := HW.out t u v ⟨ht1.out.sm, hu1.out.sm, hv1.out.sm⟩ HR.out
          exact bodyPost_ret (v := .tuple #[.float .f64 t, .float .f64 u, .float .f64 v, .bool true]) (by simp [results, go_sem]) rfl ⟨_, rfl, by rw [HM.out, HR.out, e1, e2, e3]; rfl, HB⟩
        all_goals
          go_wp2_with fail
          exact bodyPost_ret (v := .tuple #[.float .f64 0, .float .f64 0, .float .f64 0, .bool false]) (by simp [results, go_sem]) rfl ⟨_, rfl, by rw [HM.out, HR.out]; rfl, HB⟩
      all_goals
        go_wp2_with fail
        exact bodyPost_ret (v := .tuple #[.float .f64 0, .float .f64 0, .float .f64 0, .bool false]) (by simp [results, go_sem]) rfl ⟨_, rfl, by rw [HM.out, HR.out]; rfl, HB⟩

end Go.Proofs.YtiblmojdjnfoaaaGreat
