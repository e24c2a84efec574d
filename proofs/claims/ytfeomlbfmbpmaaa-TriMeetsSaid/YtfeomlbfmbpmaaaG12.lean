/- The walk of TriMeets. A vector that comes in, opened and shut. Structs of two and of three vectors that come in, opened and shut. -/
import Derived.ProofKit
import Derived.Lib.SmallJoins
import Derived.Test.YtfeomlbfmbpmaaaRows
import Derived.Test.YtfeomlbfmbpmaaaG9
import Derived.Test.YtfeomlbfmbpmaaaG11
import Derived.Test.YtfeomlbfmbpmaaaG1
namespace Go.Proofs.Ytfeomlbfmbpmaaa
open Go.RowKit Fl

theorem meet_some {A B C O D h : V3} (e : meetF A B C O D = some h) : ∃ n f, triGo A B C O D = some (n, f) ∧ hitB n f h.x h.y h.z = true := by
  unfold meetF at e
  split at e
  · cases e
  · rename_i s hs
    split at e
    · rename_i hk
      cases e
      exact ⟨s.1, s.2, hs, hk⟩
    · cases e
theorem feq_self {x : Nat} (h : isN x = false) : Op.floatEq .f64 x x = true := by
  show (ford x x == some .eq) = true
  rw [ford_refl h]; rfl

set_option maxRecDepth 100000 in
set_option maxHeartbeats 2000000 in
theorem meets_walk (A B C O D : V3) (w : World) : Ret Try.prog 3 #[.agg #[.float .f64 A.x, .float .f64 A.y, .float .f64 A.z, .float .f64 B.x, .float .f64 B.y, .float .f64 B.z, .float .f64 C.x, .float .f64 C.y, .float .f64 C.z], .agg #[.float .f64 O.x, .float .f64 O.y, .float .f64 O.z, .float .f64 D.x, .float .f64 D.y, .float .f64 D.z]] w (fun v => v = .bool true) := by
  unfold Ret
  have HM := hid (fun w => meet_any A B C O D w)
  have HR := hid (fun w => rmeet_any A B C O D w)
  have HS := hid (fun h (e : meetF A B C O D = some h) => meet_some e)
  have HT := hid (fun w => rthrough_any (lowF (lowF (lowF pinf A.x) B.x) C.x) (lowF (lowF (lowF pinf A.y) B.y) C.y) (lowF (lowF (lowF pinf A.z) B.z) C.z) (highF (highF (highF ninf A.x) B.x) C.x) (highF (highF (highF ninf A.y) B.y) C.y) (highF (highF (highF ninf A.z) B.z) C.z) O.x O.y O.z D.x D.y D.z w)
  have HE := hid (show goesF (lowF (lowF (lowF pinf A.x) B.x) C.x) (lowF (lowF (lowF pinf A.y) B.y) C.y) (lowF (lowF (lowF pinf A.z) B.z) C.z) (highF (highF (highF ninf A.x) B.x) C.x) (highF (highF (highF ninf A.y) B.y) C.y) (highF (highF (highF ninf A.z) B.z) C.z) O.x O.y O.z D.x D.y D.z = triGo A B C O D from rfl)
  rw [HE.out] at HT
  clear HE
  generalize meetF A B C O D = M at *
  have HB : Cl w w := Below.refl _ _
  rcases M with _ | h
  · clear HS HT
    have o0 := feq_self num_c0
    simp only [hitV, outM, Option.isSome] at HM HR
    go_enter Try.func3, Try.ntmps3
    go_wp2_with fail
    refine Lp.settleC (fun w' => Lp.Bk w' (w.heap.size) #[.float .f64 A.x, .float .f64 A.y, .float .f64 A.z, .float .f64 B.x, .float .f64 B.y, .float .f64 B.z, .float .f64 C.x, .float .f64 C.y, .float .f64 C.z] 26 ∧ Lp.Bk w' (w.heap.size + 1) #[.float .f64 O.x, .float .f64 O.y, .float .f64 O.z, .float .f64 D.x, .float .f64 D.y, .float .f64 D.z] 28 ∧ Cl w w') ⟨(Lp.Bk.al _ _ _).alo _, Lp.Bk.al1 _ _ _ _, ((HB).alloc _).alloc _⟩ ?_
    clear HB
    rintro v1 ⟨BT, BY, HB⟩
    have kT := BT.cell
    have kY := BY.cell
    have nT0 : (w.heap.size = v1.heap.size) = False := eq_false (by have := BT.lt; omega)
    have mT0 : w.heap.size < v1.heap.size := by have := BT.lt; omega
    have nT1 : (w.heap.size = v1.heap.size + 1) = False := eq_false (by have := BT.lt; omega)
    have mT1 : w.heap.size < v1.heap.size + 1 := by have := BT.lt; omega
    have nY0 : (w.heap.size + 1 = v1.heap.size) = False := eq_false (by have := BY.lt; omega)
    have mY0 : w.heap.size + 1 < v1.heap.size := by have := BY.lt; omega
    have nY1 : (w.heap.size = v1.heap.size) = False := eq_false (by have := BY.lt; omega)
    have mY1 : w.heap.size < v1.heap.size := by have := BY.lt; omega
    refine Calls.mono (HM.out _) ?_
    rintro e v2 ⟨v, rfl, rfl, hm⟩
    clear kT kY nT0 mT0 nT1 mT1 nY0 mY0 nY1 mY1
    replace BT := BT.keep hm
    replace BY := BY.keep hm
    replace HB := HB.call hm
    clear hm
    have kT := BT.cell
    have kY := BY.cell
    have nT0 : (w.heap.size = v2.heap.size) = False := eq_false (by have := BT.lt; omega)
    have mT0 : w.heap.size < v2.heap.size := by have := BT.lt; omega
    have nT1 : (w.heap.size = v2.heap.size + 1) = False := eq_false (by have := BT.lt; omega)
    have mT1 : w.heap.size < v2.heap.size + 1 := by have := BT.lt; omega
    have nY0 : (w.heap.size + 1 = v2.heap.size) = False := eq_false (by have := BY.lt; omega)
    have mY0 : w.heap.size + 1 < v2.heap.size := by have := BY.lt; omega
    have nY1 : (w.heap.size = v2.heap.size) = False := eq_false (by have := BY.lt; omega)
    have mY1 : w.heap.size < v2.heap.size := by have := BY.lt; omega
    go_wp2_with fail
    refine Lp.settleC (fun w' => Lp.Bk w' (w.heap.size) #[.float .f64 A.x, .float .f64 A.y, .float .f64 A.z, .float .f64 B.x, .float .f64 B.y, .float .f64 B.z, .float .f64 C.x, .float .f64 C.y, .float .f64 C.z] 26 ∧ Lp.Bk w' (w.heap.size + 1) #[.float .f64 O.x, .float .f64 O.y, .float .f64 O.z, .float .f64 D.x, .float .f64 D.y, .float .f64 D.z] 28 ∧ Lp.Bk w' (v2.heap.size) #[.int .i64 (-1), .float .f64 0, .float .f64 0, .float .f64 0] 30 ∧ Cl w w') ⟨(BT).alo _, (BY).alo _, Lp.Bk.al _ _ _, (HB).alloc _⟩ ?_
    clear kT kY nT0 mT0 nT1 mT1 nY0 mY0 nY1 mY1
    clear BT BY HB
    rintro v3 ⟨BT, BY, BH, HB⟩
    have kT := BT.cell
    have kY := BY.cell
    have kH := BH.cell
    have nT0 : (w.heap.size = v3.heap.size) = False := eq_false (by have := BT.lt; omega)
    have mT0 : w.heap.size < v3.heap.size := by have := BT.lt; omega
    have nT1 : (w.heap.size = v3.heap.size + 1) = False := eq_false (by have := BT.lt; omega)
    have mT1 : w.heap.size < v3.heap.size + 1 := by have := BT.lt; omega
    have nY0 : (w.heap.size + 1 = v3.heap.size) = False := eq_false (by have := BY.lt; omega)
    have mY0 : w.heap.size + 1 < v3.heap.size := by have := BY.lt; omega
    have nY1 : (w.heap.size = v3.heap.size) = False := eq_false (by have := BY.lt; omega)
    have mY1 : w.heap.size < v3.heap.size := by have := BY.lt; omega
    have nH0 : (v2.heap.size = v3.heap.size) = False := eq_false (by have := BH.lt; omega)
    have mH0 : v2.heap.size < v3.heap.size := by have := BH.lt; omega
    have nH1 : (v2.heap.size = v3.heap.size + 1) = False := eq_false (by have := BH.lt; omega)
    have mH1 : v2.heap.size < v3.heap.size + 1 := by have := BH.lt; omega
    refine Calls.mono (HR.out _) ?_
    rintro e v4 ⟨v, rfl, rfl, hm⟩
    clear kT kY kH nT0 mT0 nT1 mT1 nY0 mY0 nY1 mY1 nH0 mH0 nH1 mH1
    replace BT := BT.keep hm
    replace BY := BY.keep hm
    replace BH := BH.keep hm
    replace HB := HB.call hm
    clear hm
    have kT := BT.cell
    have kY := BY.cell
    have kH := BH.cell
    have nT0 : (w.heap.size = v4.heap.size) = False := eq_false (by have := BT.lt; omega)
    have mT0 : w.heap.size < v4.heap.size := by have := BT.lt; omega
    have nT1 : (w.heap.size = v4.heap.size + 1) = False := eq_false (by have := BT.lt; omega)
    have mT1 : w.heap.size < v4.heap.size + 1 := by have := BT.lt; omega
    have nY0 : (w.heap.size + 1 = v4.heap.size) = False := eq_false (by have := BY.lt; omega)
    have mY0 : w.heap.size + 1 < v4.heap.size := by have := BY.lt; omega
    have nY1 : (w.heap.size = v4.heap.size) = False := eq_false (by have := BY.lt; omega)
    have mY1 : w.heap.size < v4.heap.size := by have := BY.lt; omega
    have nH0 : (v2.heap.size = v4.heap.size) = False := eq_false (by have := BH.lt; omega)
    have mH0 : v2.heap.size < v4.heap.size := by have := BH.lt; omega
    have nH1 : (v2.heap.size = v4.heap.size + 1) = False := eq_false (by have := BH.lt; omega)
    have mH1 : v2.heap.size < v4.heap.size + 1 := by have := BH.lt; omega
    go_wp2_with fail
    refine Calls.mono (awake_any _) ?_
    rintro e v5 ⟨v, rfl, rfl, hm⟩
    clear kT kY kH nT0 mT0 nT1 mT1 nY0 mY0 nY1 mY1 nH0 mH0 nH1 mH1
    replace BT := BT.keep hm
    replace BY := BY.keep hm
    replace BH := BH.keep hm
    replace HB := HB.call hm
    clear hm
    have kT := BT.cell
    have kY := BY.cell
    have kH := BH.cell
    have nT0 : (w.heap.size = v5.heap.size) = False := eq_false (by have := BT.lt; omega)
    have mT0 : w.heap.size < v5.heap.size := by have := BT.lt; omega
    have nT1 : (w.heap.size = v5.heap.size + 1) = False := eq_false (by have := BT.lt; omega)
    have mT1 : w.heap.size < v5.heap.size + 1 := by have := BT.lt; omega
    have nY0 : (w.heap.size + 1 = v5.heap.size) = False := eq_false (by have := BY.lt; omega)
    have mY0 : w.heap.size + 1 < v5.heap.size := by have := BY.lt; omega
    have nY1 : (w.heap.size = v5.heap.size) = False := eq_false (by have := BY.lt; omega)
    have mY1 : w.heap.size < v5.heap.size := by have := BY.lt; omega
    have nH0 : (v2.heap.size = v5.heap.size) = False := eq_false (by have := BH.lt; omega)
    have mH0 : v2.heap.size < v5.heap.size := by have := BH.lt; omega
    have nH1 : (v2.heap.size = v5.heap.size + 1) = False := eq_false (by have := BH.lt; omega)
    have mH1 : v2.heap.size < v5.heap.size + 1 := by have := BH.lt; omega
    go_wp2_with fail
    go_ret
    exact ⟨_, rfl, rfl, HB⟩
  · obtain ⟨n, f, e, k⟩ := HS.out h rfl
    rw [e] at HT
    clear e HS
    obtain ⟨n1, n2, n3⟩ := hit_num k
    have o1 := feq_self n1
    have o2 := feq_self n2
    have o3 := feq_self n3
    unfold hitB at k
    simp only [Bool.and_eq_true] at k
    have o4 : (FloatKind.f64.format.order h.x n == some .gt || FloatKind.f64.format.order h.x n == some .eq) = true := k.1.1.2
    have o5 : (FloatKind.f64.format.order h.x f == some .lt || FloatKind.f64.format.order h.x f == some .eq) = true := k.1.2
    clear n1 n2 n3 k
    simp only [outT] at HT
    simp only [hitV, outM, Option.isSome] at HM HR
    go_enter Try.func3, Try.ntmps3
    go_wp2_with fail
    refine Lp.settleC (fun w' => Lp.Bk w' (w.heap.size) #[.float .f64 A.x, .float .f64 A.y, .float .f64 A.z, .float .f64 B.x, .float .f64 B.y, .float .f64 B.z, .float .f64 C.x, .float .f64 C.y, .float .f64 C.z] 26 ∧ Lp.Bk w' (w.heap.size + 1) #[.float .f64 O.x, .float .f64 O.y, .float .f64 O.z, .float .f64 D.x, .float .f64 D.y, .float .f64 D.z] 28 ∧ Cl w w') ⟨(Lp.Bk.al _ _ _).alo _, Lp.Bk.al1 _ _ _ _, ((HB).alloc _).alloc _⟩ ?_
    clear HB
    rintro v1 ⟨BT, BY, HB⟩
    have kT := BT.cell
    have kY := BY.cell
    have nT0 : (w.heap.size = v1.heap.size) = False := eq_false (by have := BT.lt; omega)
    have mT0 : w.heap.size < v1.heap.size := by have := BT.lt; omega
    have nT1 : (w.heap.size = v1.heap.size + 1) = False := eq_false (by have := BT.lt; omega)
    have mT1 : w.heap.size < v1.heap.size + 1 := by have := BT.lt; omega
    have nY0 : (w.heap.size + 1 = v1.heap.size) = False := eq_false (by have := BY.lt; omega)
    have mY0 : w.heap.size + 1 < v1.heap.size := by have := BY.lt; omega
    have nY1 : (w.heap.size = v1.heap.size) = False := eq_false (by have := BY.lt; omega)
    have mY1 : w.heap.size < v1.heap.size := by have := BY.lt; omega
    refine Calls.mono (HM.out _) ?_
    rintro e v2 ⟨v, rfl, rfl, hm⟩
    clear kT kY nT0 mT0 nT1 mT1 nY0 mY0 nY1 mY1
    replace BT := BT.keep hm
    replace BY := BY.keep hm
    replace HB := HB.call hm
    clear hm
    have kT := BT.cell
    have kY := BY.cell
    have nT0 : (w.heap.size = v2.heap.size) = False := eq_false (by have := BT.lt; omega)
    have mT0 : w.heap.size < v2.heap.size := by have := BT.lt; omega
    have nT1 : (w.heap.size = v2.heap.size + 1) = False := eq_false (by have := BT.lt; omega)
    have mT1 : w.heap.size < v2.heap.size + 1 := by have := BT.lt; omega
    have nY0 : (w.heap.size + 1 = v2.heap.size) = False := eq_false (by have := BY.lt; omega)
    have mY0 : w.heap.size + 1 < v2.heap.size := by have := BY.lt; omega
    have nY1 : (w.heap.size = v2.heap.size) = False := eq_false (by have := BY.lt; omega)
    have mY1 : w.heap.size < v2.heap.size := by have := BY.lt; omega
    go_wp2_with fail
    refine Lp.settleC (fun w' => Lp.Bk w' (w.heap.size) #[.float .f64 A.x, .float .f64 A.y, .float .f64 A.z, .float .f64 B.x, .float .f64 B.y, .float .f64 B.z, .float .f64 C.x, .float .f64 C.y, .float .f64 C.z] 26 ∧ Lp.Bk w' (w.heap.size + 1) #[.float .f64 O.x, .float .f64 O.y, .float .f64 O.z, .float .f64 D.x, .float .f64 D.y, .float .f64 D.z] 28 ∧ Lp.Bk w' (v2.heap.size) #[.int .i64 0, .float .f64 h.x, .float .f64 h.y, .float .f64 h.z] 30 ∧ Cl w w') ⟨(BT).alo _, (BY).alo _, Lp.Bk.al _ _ _, (HB).alloc _⟩ ?_
    clear kT kY nT0 mT0 nT1 mT1 nY0 mY0 nY1 mY1
    clear BT BY HB
    rintro v3 ⟨BT, BY, BH, HB⟩
    have kT := BT.cell
    have kY := BY.cell
    have kH := BH.cell
    have nT0 : (w.heap.size = v3.heap.size) = False := eq_false (by have := BT.lt; omega)
    have mT0 : w.heap.size < v3.heap.size := by have := BT.lt; omega
    have nT1 : (w.heap.size = v3.heap.size + 1) = False := eq_false (by have := BT.lt; omega)
    have mT1 : w.heap.size < v3.heap.size + 1 := by have := BT.lt; omega
    have nY0 : (w.heap.size + 1 = v3.heap.size) = False := eq_false (by have := BY.lt; omega)
    have mY0 : w.heap.size + 1 < v3.heap.size := by have := BY.lt; omega
    have nY1 : (w.heap.size = v3.heap.size) = False := eq_false (by have := BY.lt; omega)
    have mY1 : w.heap.size < v3.heap.size := by have := BY.lt; omega
    have nH0 : (v2.heap.size = v3.heap.size) = False := eq_false (by have := BH.lt; omega)
    have mH0 : v2.heap.size < v3.heap.size := by have := BH.lt; omega
    have nH1 : (v2.heap.size = v3.heap.size + 1) = False := eq_false (by have := BH.lt; omega)
    have mH1 : v2.heap.size < v3.heap.size + 1 := by have := BH.lt; omega
    refine Calls.mono (HR.out _) ?_
    rintro e v4 ⟨v, rfl, rfl, hm⟩
    clear kT kY kH nT0 mT0 nT1 mT1 nY0 mY0 nY1 mY1 nH0 mH0 nH1 mH1
    replace BT := BT.keep hm
    replace BY := BY.keep hm
    replace BH := BH.keep hm
    replace HB := HB.call hm
    clear hm
    have kT := BT.cell
    have kY := BY.cell
    have kH := BH.cell
    have nT0 : (w.heap.size = v4.heap.size) = False := eq_false (by have := BT.lt; omega)
    have mT0 : w.heap.size < v4.heap.size := by have := BT.lt; omega
    have nT1 : (w.heap.size = v4.heap.size + 1) = False := eq_false (by have := BT.lt; omega)
    have mT1 : w.heap.size < v4.heap.size + 1 := by have := BT.lt; omega
    have nY0 : (w.heap.size + 1 = v4.heap.size) = False := eq_false (by have := BY.lt; omega)
    have mY0 : w.heap.size + 1 < v4.heap.size := by have := BY.lt; omega
    have nY1 : (w.heap.size = v4.heap.size) = False := eq_false (by have := BY.lt; omega)
    have mY1 : w.heap.size < v4.heap.size := by have := BY.lt; omega
    have nH0 : (v2.heap.size = v4.heap.size) = False := eq_false (by have := BH.lt; omega)
    have mH0 : v2.heap.size < v4.heap.size := by have := BH.lt; omega
    have nH1 : (v2.heap.size = v4.heap.size + 1) = False := eq_false (by have := BH.lt; omega)
    have mH1 : v2.heap.size < v4.heap.size + 1 := by have := BH.lt; omega
    go_wp2_with fail
    apply Lp.wp_region_loose _ _ 11 (by kernel_rfl) (by kernel_rfl) (by kernel_rfl) (Below.refl _ _)
    apply Lp.facts
    · intro w1 hw
      exact And.intro (BT.cl hw).cell (And.intro (BY.cl hw).cell ((BH.cl hw).cell))
    intro HF
    iterate 1 (
      apply Lp.one ?_ rfl
      · intro w hw
        obtain ⟨k0, k1, k2⟩ := HF.out _ hw
        go_simp
        exact rfl
      intro K hK
      go_simp
      refine hK.out _ ?_
      clear hK K)
    apply Lp.any rfl
    · intro w hw
      go_simp
      exact Lp.ret (rof_any _ _ _ _ _ _ _ _ _ _)
    intro K hK
    rintro v rfl
    go_simp
    refine hK.out _ ?_
    clear hK K
    iterate 1 (
      apply Lp.one ?_ rfl
      · intro w hw
        obtain ⟨k0, k1, k2⟩ := HF.out _ hw
        go_simp
        exact rfl
      intro K hK
      go_simp
      refine hK.out _ ?_
      clear hK K)
    apply Lp.any rfl
    · intro w hw
      go_simp
      exact Lp.ret (HT.out _)
    intro K hK
    rintro v rfl
    go_simp
    refine hK.out _ ?_
    clear hK K
    iterate 7 (
      apply Lp.one ?_ rfl
      · intro w hw
        obtain ⟨k0, k1, k2⟩ := HF.out _ hw
        go_simp
        exact rfl
      intro K hK
      go_simp
      refine hK.out _ ?_
      clear hK K)
    rotate_left
    exact []
    intro v5 hm
    clear kT kY kH nT0 mT0 nT1 mT1 nY0 mY0 nY1 mY1 nH0 mH0 nH1 mH1
    replace BT := BT.keep hm
    replace BY := BY.keep hm
    replace BH := BH.keep hm
    replace HB := HB.call hm
    clear hm
    have kT := BT.cell
    have kY := BY.cell
    have kH := BH.cell
    have nT0 : (w.heap.size = v5.heap.size) = False := eq_false (by have := BT.lt; omega)
    have mT0 : w.heap.size < v5.heap.size := by have := BT.lt; omega
    have nT1 : (w.heap.size = v5.heap.size + 1) = False := eq_false (by have := BT.lt; omega)
    have mT1 : w.heap.size < v5.heap.size + 1 := by have := BT.lt; omega
    have nY0 : (w.heap.size + 1 = v5.heap.size) = False := eq_false (by have := BY.lt; omega)
    have mY0 : w.heap.size + 1 < v5.heap.size := by have := BY.lt; omega
    have nY1 : (w.heap.size = v5.heap.size) = False := eq_false (by have := BY.lt; omega)
    have mY1 : w.heap.size < v5.heap.size := by have := BY.lt; omega
    have nH0 : (v2.heap.size = v5.heap.size) = False := eq_false (by have := BH.lt; omega)
    have mH0 : v2.heap.size < v5.heap.size := by have := BH.lt; omega
    have nH1 : (v2.heap.size = v5.heap.size + 1) = False := eq_false (by have := BH.lt; omega)
    have mH1 : v2.heap.size < v5.heap.size + 1 := by have := BH.lt; omega
    go_wp2_with fail
    refine Calls.mono (awake_any _) ?_
    rintro e v6 ⟨v, rfl, rfl, hm⟩
    clear kT kY kH nT0 mT0 nT1 mT1 nY0 mY0 nY1 mY1 nH0 mH0 nH1 mH1
    replace BT := BT.keep hm
    replace BY := BY.keep hm
    replace BH := BH.keep hm
    replace HB := HB.call hm
    clear hm
    have kT := BT.cell
    have kY := BY.cell
    have kH := BH.cell
    have nT0 : (w.heap.size = v6.heap.size) = False := eq_false (by have := BT.lt; omega)
    have mT0 : w.heap.size < v6.heap.size := by have := BT.lt; omega
    have nT1 : (w.heap.size = v6.heap.size + 1) = False := eq_false (by have := BT.lt; omega)
    have mT1 : w.heap.size < v6.heap.size + 1 := by have := BT.lt; omega
    have nY0 : (w.heap.size + 1 = v6.heap.size) = False := eq_false (by have := BY.lt; omega)
    have mY0 : w.heap.size + 1 < v6.heap.size := by have := BY.lt; omega
    have nY1 : (w.heap.size = v6.heap.size) = False := eq_false (by have := BY.lt; omega)
    have mY1 : w.heap.size < v6.heap.size := by have := BY.lt; omega
    have nH0 : (v2.heap.size = v6.heap.size) = False := eq_false (by have := BH.lt; omega)
    have mH0 : v2.heap.size < v6.heap.size := by have := BH.lt; omega
    have nH1 : (v2.heap.size = v6.heap.size + 1) = False := eq_false (by have := BH.lt; omega)
    have mH1 : v2.heap.size < v6.heap.size + 1 := by have := BH.lt; omega
    go_wp2_with fail
    go_ret
    exact ⟨_, rfl, rfl, HB⟩

end Go.Proofs.Ytfeomlbfmbpmaaa

namespace Go.Proofs.Ytfeomlbfmbpmaaa.Fl
section
variable {H : Type} {enc : TypeId × Value → H} {P : Program} {w : World} {base : Nat} {spare : Nat → Bool} {held : Bool} {fuel : Nat} {t : TypeId} {cs : List Value} {x : DataW H × List MemPlace}
theorem trod_float {k : FloatKind} (ht : P.underlying t = some (.float k)) (h : DataW.trod enc P w base spare held fuel t cs = some x) : ∃ n, cs = [.float k n] ∧ x = (.lit (.float k n), []) ∧ (Lit.float k n).wf = true := by
  cases fuel with
  | zero => simp [DataW.trod] at h
  | succ n =>
    unfold DataW.trod at h
    rw [ht] at h
    split at h <;> simp_all
end
end Go.Proofs.Ytfeomlbfmbpmaaa.Fl
namespace Go.Proofs.Ytfeomlbfmbpmaaa
open Go.ChangeShapes Go.WideShapes Go.ChangeAt Go.RowKit Fl Go.Joins

theorem Try.own : ownKnob Try.prog.godebug = none := by kernel_rfl
theorem Try.laidOut : laidOutB Try.prog = true := by kernel_rfl

theorem Try.cells24 : Try.prog.cellsOf 24 = 3 := by kernel_rfl

theorem open_vec {H : Type} {enc : TypeId × Value → H} {W : World} {base : Nat} {spare : Nat → Bool} {held : Bool} {r : Reach} {b0 : Nat} {v : Value} {d : DataW H} {ps : List MemPlace} (hv : Value.okWide Try.prog W r b0 24 v) (h : DataW.Trod enc Try.prog W base spare held 24 v d ps) :
    ∃ x y z, v = .agg #[.float .f64 x, .float .f64 y, .float .f64 z] ∧ d = .agg [.lit (.float .f64 x), .lit (.float .f64 y), .lit (.float .f64 z)] ∧ ps = [] ∧
      (Lit.float .f64 x).wf = true ∧ (Lit.float .f64 y).wf = true ∧ (Lit.float .f64 z).wf = true := by
  obtain ⟨c0, c1, c2, y0, y1, y2, m, rfl, rfl, rfl, h0, h1, h2⟩ := open_agg3 Try.underlying24 (by kernel_rfl) Try.cells24 hv h
  obtain ⟨x, e0, rfl, wx⟩ := trod_float Try.underlying22 h0
  obtain ⟨y, e1, rfl, wy⟩ := trod_float Try.underlying22 h1
  obtain ⟨z, e2, rfl, wz⟩ := trod_float Try.underlying22 h2
  simp at e0 e1 e2
  subst e0 e1 e2
  exact ⟨x, y, z, rfl, rfl, rfl, wx, wy, wz⟩

theorem shut_vec {H : Type} {enc : TypeId × Value → H} {W : World} {base : Nat} {spare : Nat → Bool} {held : Bool} {x y z : Nat} (wx : (Lit.float .f64 x).wf = true) (wy : (Lit.float .f64 y).wf = true) (wz : (Lit.float .f64 z).wf = true) :
    DataW.Trod enc Try.prog W base spare held 24 (.agg #[.float .f64 x, .float .f64 y, .float .f64 z]) (.agg [.lit (.float .f64 x), .lit (.float .f64 y), .lit (.float .f64 z)]) [] :=
  shut_agg3 (y0 := (.lit (.float .f64 x), [])) (y1 := (.lit (.float .f64 y), [])) (y2 := (.lit (.float .f64 z), [])) Try.underlying24 (by kernel_rfl) Try.cells24
    ⟨1, by simp [DataW.trod, Try.underlying22, wx]⟩ ⟨1, by simp [DataW.trod, Try.underlying22, wy]⟩ ⟨1, by simp [DataW.trod, Try.underlying22, wz]⟩

end Go.Proofs.Ytfeomlbfmbpmaaa

namespace Go.Proofs.Ytfeomlbfmbpmaaa
open Go.ChangeShapes Go.WideShapes Go.ChangeAt Go.RowKit Fl Go.Joins Go.Deep

theorem array6 {α : Type} {cs : Array α} (h : cs.size = 6) : ∃ c0 c1 c2 c3 c4 c5, cs = #[c0, c1, c2, c3, c4, c5] := by
  obtain ⟨l⟩ := cs
  match l, h with
  | [c0, c1, c2, c3, c4, c5], _ => exact ⟨c0, c1, c2, c3, c4, c5, rfl⟩
theorem array9 {α : Type} {cs : Array α} (h : cs.size = 9) : ∃ c0 c1 c2 c3 c4 c5 c6 c7 c8, cs = #[c0, c1, c2, c3, c4, c5, c6, c7, c8] := by
  obtain ⟨l⟩ := cs
  match l, h with
  | [c0, c1, c2, c3, c4, c5, c6, c7, c8], _ => exact ⟨c0, c1, c2, c3, c4, c5, c6, c7, c8, rfl⟩
/-- Three words. -/
def Wf3 (x y z : Nat) : Prop := (Lit.float .f64 x).wf = true ∧ (Lit.float .f64 y).wf = true ∧ (Lit.float .f64 z).wf = true

theorem trod_vec {H : Type} {enc : TypeId × Value → H} {W : World} {base : Nat} {spare : Nat → Bool} {held : Bool} {n : Nat} {c0 c1 c2 : Value} {y : DataW H × List MemPlace} (h : DataW.trod enc Try.prog W base spare held n 24 [c0, c1, c2] = some y) :
    ∃ x y' z, c0 = .float .f64 x ∧ c1 = .float .f64 y' ∧ c2 = .float .f64 z ∧ y = (.agg [.lit (.float .f64 x), .lit (.float .f64 y'), .lit (.float .f64 z)], []) ∧ Wf3 x y' z := by
  obtain ⟨y0, y1, y2, m, hx, _, h0, h1, h2⟩ := trod_struct3 Try.underlying24 h
  have k : Try.prog.cellsOf 22 = 1 := by kernel_rfl
  simp only [k, List.drop_zero, List.drop_succ_cons, List.take_succ_cons, List.take_zero] at h0 h1 h2
  obtain ⟨x, e0, rfl, wx⟩ := trod_float Try.underlying22 h0
  obtain ⟨y', e1, rfl, wy⟩ := trod_float Try.underlying22 h1
  obtain ⟨z, e2, rfl, wz⟩ := trod_float Try.underlying22 h2
  simp at e0 e1 e2
  subst e0 e1 e2 hx
  exact ⟨x, y', z, rfl, rfl, rfl, rfl, wx, wy, wz⟩

theorem trod_vec_mk {H : Type} {enc : TypeId × Value → H} {W : World} {base : Nat} {spare : Nat → Bool} {held : Bool} {x y z : Nat} (h : Wf3 x y z) :
    DataW.trod enc Try.prog W base spare held 2 24 [.float .f64 x, .float .f64 y, .float .f64 z] = some (.agg [.lit (.float .f64 x), .lit (.float .f64 y), .lit (.float .f64 z)], []) := by
  have k : Try.prog.cellsOf 22 = 1 := by kernel_rfl
  refine trod_struct3_mk (n := 1) (y0 := (.lit (.float .f64 x), [])) (y1 := (.lit (.float .f64 y), [])) (y2 := (.lit (.float .f64 z), [])) Try.underlying24 (by rw [Try.cells24]; rfl) ?_ ?_ ?_ <;>
  simp only [k, List.drop_zero, List.drop_succ_cons, List.take_succ_cons, List.take_zero] <;> simp [DataW.trod, Try.underlying22, h.1, h.2.1, h.2.2]

theorem Try.cells39 : Try.prog.cellsOf 39 = 6 := by kernel_rfl

theorem open_box {H : Type} {enc : TypeId × Value → H} {W : World} {base : Nat} {spare : Nat → Bool} {held : Bool} {r : Reach} {b0 : Nat} {v : Value} {d : DataW H} {ps : List MemPlace} (hv : Value.okWide Try.prog W r b0 39 v) (h : DataW.Trod enc Try.prog W base spare held 39 v d ps) :
    ∃ x0 x1 x2 x3 x4 x5, v = .agg #[.float .f64 x0, .float .f64 x1, .float .f64 x2, .float .f64 x3, .float .f64 x4, .float .f64 x5] ∧ d = .agg [.agg [.lit (.float .f64 x0), .lit (.float .f64 x1), .lit (.float .f64 x2)], .agg [.lit (.float .f64 x3), .lit (.float .f64 x4), .lit (.float .f64 x5)]] ∧ ps = [] ∧ Wf3 x0 x1 x2 ∧ Wf3 x3 x4 x5 := by
  obtain ⟨cs, rfl, hsz⟩ := okWide_struct Try.underlying39 hv
  obtain ⟨c0, c1, c2, c3, c4, c5, rfl⟩ := array6 (hsz.trans Try.cells39)
  obtain ⟨fuel, hf⟩ := h
  obtain ⟨y0, y1, m, hx, _, h0, h1⟩ := trod_struct2 Try.underlying39 hf
  simp only [Value.cells, Try.cells24, List.drop_zero, List.drop_succ_cons, List.take_succ_cons, List.take_zero] at h0 h1
  obtain ⟨x0, x1, x2, rfl, rfl, rfl, rfl, w0⟩ := trod_vec h0
  obtain ⟨x3, x4, x5, rfl, rfl, rfl, rfl, w1⟩ := trod_vec h1
  simp only [Prod.mk.injEq] at hx
  exact ⟨x0, x1, x2, x3, x4, x5, rfl, hx.1, hx.2, w0, w1⟩

theorem shut_box {H : Type} {enc : TypeId × Value → H} {W : World} {base : Nat} {spare : Nat → Bool} {held : Bool} {x0 x1 x2 x3 x4 x5 : Nat} (w0 : Wf3 x0 x1 x2) (w1 : Wf3 x3 x4 x5) : DataW.Trod enc Try.prog W base spare held 39 (.agg #[.float .f64 x0, .float .f64 x1, .float .f64 x2, .float .f64 x3, .float .f64 x4, .float .f64 x5]) (.agg [.agg [.lit (.float .f64 x0), .lit (.float .f64 x1), .lit (.float .f64 x2)], .agg [.lit (.float .f64 x3), .lit (.float .f64 x4), .lit (.float .f64 x5)]]) [] := by
  refine ⟨3, ?_⟩
  refine trod_struct2_mk (n := 2) (y0 := (_, [])) (y1 := (_, [])) Try.underlying39 (by rw [Try.cells39]; rfl) ?_ ?_ <;>
  simp only [Value.cells, Try.cells24, List.drop_zero, List.drop_succ_cons, List.take_succ_cons, List.take_zero]
  · exact trod_vec_mk w0
  · exact trod_vec_mk w1

theorem Try.cells28 : Try.prog.cellsOf 28 = 6 := by kernel_rfl

theorem open_ray {H : Type} {enc : TypeId × Value → H} {W : World} {base : Nat} {spare : Nat → Bool} {held : Bool} {r : Reach} {b0 : Nat} {v : Value} {d : DataW H} {ps : List MemPlace} (hv : Value.okWide Try.prog W r b0 28 v) (h : DataW.Trod enc Try.prog W base spare held 28 v d ps) :
    ∃ x0 x1 x2 x3 x4 x5, v = .agg #[.float .f64 x0, .float .f64 x1, .float .f64 x2, .float .f64 x3, .float .f64 x4, .float .f64 x5] ∧ d = .agg [.agg [.lit (.float .f64 x0), .lit (.float .f64 x1), .lit (.float .f64 x2)], .agg [.lit (.float .f64 x3), .lit (.float .f64 x4), .lit (.float .f64 x5)]] ∧ ps = [] ∧ Wf3 x0 x1 x2 ∧ Wf3 x3 x4 x5 := by
  obtain ⟨cs, rfl, hsz⟩ := okWide_struct Try.underlying28 hv
  obtain ⟨c0, c1, c2, c3, c4, c5, rfl⟩ := array6 (hsz.trans Try.cells28)
  obtain ⟨fuel, hf⟩ := h
  obtain ⟨y0, y1, m, hx, _, h0, h1⟩ := trod_struct2 Try.underlying28 hf
  simp only [Value.cells, Try.cells24, List.drop_zero, List.drop_succ_cons, List.take_succ_cons, List.take_zero] at h0 h1
  obtain ⟨x0, x1, x2, rfl, rfl, rfl, rfl, w0⟩ := trod_vec h0
  obtain ⟨x3, x4, x5, rfl, rfl, rfl, rfl, w1⟩ := trod_vec h1
  simp only [Prod.mk.injEq] at hx
  exact ⟨x0, x1, x2, x3, x4, x5, rfl, hx.1, hx.2, w0, w1⟩

theorem shut_ray {H : Type} {enc : TypeId × Value → H} {W : World} {base : Nat} {spare : Nat → Bool} {held : Bool} {x0 x1 x2 x3 x4 x5 : Nat} (w0 : Wf3 x0 x1 x2) (w1 : Wf3 x3 x4 x5) : DataW.Trod enc Try.prog W base spare held 28 (.agg #[.float .f64 x0, .float .f64 x1, .float .f64 x2, .float .f64 x3, .float .f64 x4, .float .f64 x5]) (.agg [.agg [.lit (.float .f64 x0), .lit (.float .f64 x1), .lit (.float .f64 x2)], .agg [.lit (.float .f64 x3), .lit (.float .f64 x4), .lit (.float .f64 x5)]]) [] := by
  refine ⟨3, ?_⟩
  refine trod_struct2_mk (n := 2) (y0 := (_, [])) (y1 := (_, [])) Try.underlying28 (by rw [Try.cells28]; rfl) ?_ ?_ <;>
  simp only [Value.cells, Try.cells24, List.drop_zero, List.drop_succ_cons, List.take_succ_cons, List.take_zero]
  · exact trod_vec_mk w0
  · exact trod_vec_mk w1

theorem Try.cells26 : Try.prog.cellsOf 26 = 9 := by kernel_rfl

theorem open_tri {H : Type} {enc : TypeId × Value → H} {W : World} {base : Nat} {spare : Nat → Bool} {held : Bool} {r : Reach} {b0 : Nat} {v : Value} {d : DataW H} {ps : List MemPlace} (hv : Value.okWide Try.prog W r b0 26 v) (h : DataW.Trod enc Try.prog W base spare held 26 v d ps) :
    ∃ x0 x1 x2 x3 x4 x5 x6 x7 x8, v = .agg #[.float .f64 x0, .float .f64 x1, .float .f64 x2, .float .f64 x3, .float .f64 x4, .float .f64 x5, .float .f64 x6, .float .f64 x7, .float .f64 x8] ∧ d = .agg [.agg [.lit (.float .f64 x0), .lit (.float .f64 x1), .lit (.float .f64 x2)], .agg [.lit (.float .f64 x3), .lit (.float .f64 x4), .lit (.float .f64 x5)], .agg [.lit (.float .f64 x6), .lit (.float .f64 x7), .lit (.float .f64 x8)]] ∧ ps = [] ∧ Wf3 x0 x1 x2 ∧ Wf3 x3 x4 x5 ∧ Wf3 x6 x7 x8 := by
  obtain ⟨cs, rfl, hsz⟩ := okWide_struct Try.underlying26 hv
  obtain ⟨c0, c1, c2, c3, c4, c5, c6, c7, c8, rfl⟩ := array9 (hsz.trans Try.cells26)
  obtain ⟨fuel, hf⟩ := h
  obtain ⟨y0, y1, y2, m, hx, _, h0, h1, h2⟩ := trod_struct3 Try.underlying26 hf
  simp only [Value.cells, Try.cells24, List.drop_zero, List.drop_succ_cons, List.take_succ_cons, List.take_zero] at h0 h1 h2
  obtain ⟨x0, x1, x2, rfl, rfl, rfl, rfl, w0⟩ := trod_vec h0
  obtain ⟨x3, x4, x5, rfl, rfl, rfl, rfl, w1⟩ := trod_vec h1
  obtain ⟨x6, x7, x8, rfl, rfl, rfl, rfl, w2⟩ := trod_vec h2
  simp only [Prod.mk.injEq] at hx
  exact ⟨x0, x1, x2, x3, x4, x5, x6, x7, x8, rfl, hx.1, hx.2, w0, w1, w2⟩

theorem shut_tri {H : Type} {enc : TypeId × Value → H} {W : World} {base : Nat} {spare : Nat → Bool} {held : Bool} {x0 x1 x2 x3 x4 x5 x6 x7 x8 : Nat} (w0 : Wf3 x0 x1 x2) (w1 : Wf3 x3 x4 x5) (w2 : Wf3 x6 x7 x8) : DataW.Trod enc Try.prog W base spare held 26 (.agg #[.float .f64 x0, .float .f64 x1, .float .f64 x2, .float .f64 x3, .float .f64 x4, .float .f64 x5, .float .f64 x6, .float .f64 x7, .float .f64 x8]) (.agg [.agg [.lit (.float .f64 x0), .lit (.float .f64 x1), .lit (.float .f64 x2)], .agg [.lit (.float .f64 x3), .lit (.float .f64 x4), .lit (.float .f64 x5)], .agg [.lit (.float .f64 x6), .lit (.float .f64 x7), .lit (.float .f64 x8)]]) [] := by
  refine ⟨3, ?_⟩
  refine trod_struct3_mk (n := 2) (y0 := (_, [])) (y1 := (_, [])) (y2 := (_, [])) Try.underlying26 (by rw [Try.cells26]; rfl) ?_ ?_ ?_ <;>
  simp only [Value.cells, Try.cells24, List.drop_zero, List.drop_succ_cons, List.take_succ_cons, List.take_zero]
  · exact trod_vec_mk w0
  · exact trod_vec_mk w1
  · exact trod_vec_mk w2

end Go.Proofs.Ytfeomlbfmbpmaaa
