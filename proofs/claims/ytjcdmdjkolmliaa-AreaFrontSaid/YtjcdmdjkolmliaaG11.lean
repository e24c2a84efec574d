/- The reference of layer 11: Plain, Density, Cosine, Solid. -/
import Derived.Test.YtjcdmdjkolmliaaRows
import Derived.Test.YtjcdmdjkolmliaaG10
namespace Go.Proofs.Ytjcdmdjkolmliaa
open Go.RowKit Fl

theorem sqrt_c {x X : Nat} (h : Sm x X) (w : World) : Ret Try.prog 6 #[.float .f64 x] w (isF (fsqrt X)) := (sqrt_any x w).mono fun v k => by rw [← fsqrt_congr h]; exact k

theorem ris_c {x y z p q r : Nat} {P : V3} (h : S3 x y z P) (k : S3 p q r P) (w : World) : Ret Try.prog 12 #[.agg #[.float .f64 x, .float .f64 y, .float .f64 z], .agg #[.float .f64 p, .float .f64 q, .float .f64 r]] w (fun v => v = .bool true) :=
  ris_true (h.x.trans k.x.symm) (h.y.trans k.y.symm) (h.z.trans k.z.symm) w

theorem rsame_c {x y X : Nat} (h : Sm x X) (k : Sm y X) (w : World) : Ret Try.prog 18 #[.float .f64 x, .float .f64 y] w (fun v => v = .bool true) := rsame_true (h.trans k.symm) w

theorem rnumber_c (x : Nat) (w : World) : Ret Try.prog 24 #[.float .f64 x] w (fun v => v = .bool (numB x)) :=
  Calls.mono (rnumber_any x w) fun _ _ ⟨he, n, hw⟩ => ⟨_, he, rfl, by subst hw; exact below_dr (Below.refl _ _) n⟩

set_option maxRecDepth 100000 in
set_option maxHeartbeats 1000000 in
theorem plain_any {x X : Nat} (hx : Eqv x X) (w : World) : Ret Try.prog 32 #[.float .f64 x] w (isF (plainF X)) := by
  unfold Ret
  have HN := hid (fun w => rnumber_any x w)
  rw [numB_congr hx.sm] at HN
  have HG := hid (ge_w hx.sm (Sm.refl 0))
  have HX := hid hx
  clear hx
  unfold plainF
  generalize numB X = b at HN ⊢
  generalize geB X 0 = g at HG ⊢
  cases b
  · have hg := HG.out
    go_enter Try.func32, Try.ntmps32
    go_wp2_with fail
    refine Calls.mono (HN.out _) ?_
    rintro e w1 ⟨rfl, n, rfl⟩
    go_wp2_with fail
    go_ret
    exact ⟨_, rfl, ⟨_, rfl, Eqv.refl wd_nought⟩, below_dr (Below.refl _ _) n⟩
  · cases g
    · have hg := HG.out
      go_enter Try.func32, Try.ntmps32
      go_wp2_with fail
      refine Calls.mono (HN.out _) ?_
      rintro e w1 ⟨rfl, n, rfl⟩
      go_wp2_with fail
      go_ret
      exact ⟨_, rfl, ⟨_, rfl, Eqv.refl wd_nought⟩, below_dr (Below.refl _ _) n⟩
    · have hg := HG.out
      go_enter Try.func32, Try.ntmps32
      go_wp2_with fail
      refine Calls.mono (HN.out _) ?_
      rintro e w1 ⟨rfl, n, rfl⟩
      go_wp2_with fail
      go_ret
      exact ⟨_, rfl, ⟨_, rfl, HX.out⟩, below_dr (Below.refl _ _) n⟩

set_option maxRecDepth 100000 in
set_option maxHeartbeats 1000000 in
theorem rdens_any {t0 t1 t2 t3 t4 t5 t6 t7 t8 : Nat} {A B C : V3} (hA : S3 t0 t1 t2 A) (hB : S3 t3 t4 t5 B) (hC : S3 t6 t7 t8 C) (w : World) : Ret Try.prog 15 #[.agg #[.float .f64 t0, .float .f64 t1, .float .f64 t2, .float .f64 t3, .float .f64 t4, .float .f64 t5, .float .f64 t6, .float .f64 t7, .float .f64 t8]] w (isF (densA ((B.sub A).cross (C.sub A)))) := by
  unfold Ret
  have HN := hid (fun w => rnormal_any hA hB hC w)
  have Ha := hid (show areaF ((B.sub A).cross (C.sub A)) = fmul (fsqrt (((B.sub A).cross (C.sub A)).dot ((B.sub A).cross (C.sub A)))) 4602678819172646912 from rfl)
  generalize ((B.sub A).cross (C.sub A)) = U at *
  have HQ := hid (show gtC (areaF U) 0 = false → densA U = 0 from fun h => quot_off h)
  have HP := hid (show gtC (areaF U) 0 = true → plainF (fdiv 4607182418800017408 (areaF U)) = densA U from fun h => quot_plain nz_one h)
  have HG := hid (fun a (h : Eqv a (areaF U)) => gt_w h.sm (Sm.refl 0))
  generalize gtC (areaF U) 0 = k at HQ HP HG
  clear hA hB hC
  have HB : Cl w w := Below.refl _ _
  cases k
  · replace HQ := hid (HQ.out rfl)
    clear HP
    go_enter Try.func15, Try.ntmps15
    go_wp2_with fail
    refine Lp.settleC (fun w' => Lp.Bk w' (w.heap.size) #[.float .f64 t0, .float .f64 t1, .float .f64 t2, .float .f64 t3, .float .f64 t4, .float .f64 t5, .float .f64 t6, .float .f64 t7, .float .f64 t8] 26 ∧ Cl w w') ⟨Lp.Bk.al _ _ _, (HB).alloc _⟩ ?_
    clear HB
    rintro v1 ⟨BT, HB⟩
    have kT := BT.cell
    have nT0 : (w.heap.size = v1.heap.size) = False := eq_false (by have := BT.lt; omega)
    have mT0 : w.heap.size < v1.heap.size := by have := BT.lt; omega
    have nT1 : (w.heap.size = v1.heap.size + 1) = False := eq_false (by have := BT.lt; omega)
    have mT1 : w.heap.size < v1.heap.size + 1 := by have := BT.lt; omega
    refine Calls.mono (HN.out _) ?_
    rintro e v2 ⟨v, rfl, ⟨x, y, z, rfl, hx, wx⟩, hm⟩
    clear kT nT0 mT0 nT1 mT1
    replace BT := BT.keep hm
    replace HB := HB.call hm
    clear hm
    have kT := BT.cell
    have nT0 : (w.heap.size = v2.heap.size) = False := eq_false (by have := BT.lt; omega)
    have mT0 : w.heap.size < v2.heap.size := by have := BT.lt; omega
    have nT1 : (w.heap.size = v2.heap.size + 1) = False := eq_false (by have := BT.lt; omega)
    have mT1 : w.heap.size < v2.heap.size + 1 := by have := BT.lt; omega
    go_wp2_with fail
    refine Lp.settleC (fun w' => Lp.Bk w' (w.heap.size) #[.float .f64 t0, .float .f64 t1, .float .f64 t2, .float .f64 t3, .float .f64 t4, .float .f64 t5, .float .f64 t6, .float .f64 t7, .float .f64 t8] 26 ∧ Lp.Bk w' (v2.heap.size) #[.float .f64 x, .float .f64 y, .float .f64 z] 24 ∧ Cl w w') ⟨(BT).alo _, Lp.Bk.al _ _ _, (HB).alloc _⟩ ?_
    clear kT nT0 mT0 nT1 mT1
    clear BT HB
    rintro v3 ⟨BT, BN, HB⟩
    have kT := BT.cell
    have kN := BN.cell
    have nT0 : (w.heap.size = v3.heap.size) = False := eq_false (by have := BT.lt; omega)
    have mT0 : w.heap.size < v3.heap.size := by have := BT.lt; omega
    have nT1 : (w.heap.size = v3.heap.size + 1) = False := eq_false (by have := BT.lt; omega)
    have mT1 : w.heap.size < v3.heap.size + 1 := by have := BT.lt; omega
    have nN0 : (v2.heap.size = v3.heap.size) = False := eq_false (by have := BN.lt; omega)
    have mN0 : v2.heap.size < v3.heap.size := by have := BN.lt; omega
    have nN1 : (v2.heap.size = v3.heap.size + 1) = False := eq_false (by have := BN.lt; omega)
    have mN1 : v2.heap.size < v3.heap.size + 1 := by have := BN.lt; omega
    refine Calls.mono (rdot_c _ hx hx) ?_
    rintro e v4 ⟨v, rfl, ⟨d, rfl, hd⟩, hm⟩
    clear kT kN nT0 mT0 nT1 mT1 nN0 mN0 nN1 mN1
    replace BT := BT.keep hm
    replace BN := BN.keep hm
    replace HB := HB.call hm
    clear hm
    have kT := BT.cell
    have kN := BN.cell
    have nT0 : (w.heap.size = v4.heap.size) = False := eq_false (by have := BT.lt; omega)
    have mT0 : w.heap.size < v4.heap.size := by have := BT.lt; omega
    have nT1 : (w.heap.size = v4.heap.size + 1) = False := eq_false (by have := BT.lt; omega)
    have mT1 : w.heap.size < v4.heap.size + 1 := by have := BT.lt; omega
    have nN0 : (v2.heap.size = v4.heap.size) = False := eq_false (by have := BN.lt; omega)
    have mN0 : v2.heap.size < v4.heap.size := by have := BN.lt; omega
    have nN1 : (v2.heap.size = v4.heap.size + 1) = False := eq_false (by have := BN.lt; omega)
    have mN1 : v2.heap.size < v4.heap.size + 1 := by have := BN.lt; omega
    go_wp2_with fail
    refine Calls.mono (sqrt_c hd.sm _) ?_
    rintro e v5 ⟨v, rfl, ⟨s, rfl, hs⟩, hm⟩
    clear kT kN nT0 mT0 nT1 mT1 nN0 mN0 nN1 mN1
    replace BT := BT.keep hm
    replace BN := BN.keep hm
    replace HB := HB.call hm
    clear hm
    have kT := BT.cell
    have kN := BN.cell
    have nT0 : (w.heap.size = v5.heap.size) = False := eq_false (by have := BT.lt; omega)
    have mT0 : w.heap.size < v5.heap.size := by have := BT.lt; omega
    have nT1 : (w.heap.size = v5.heap.size + 1) = False := eq_false (by have := BT.lt; omega)
    have mT1 : w.heap.size < v5.heap.size + 1 := by have := BT.lt; omega
    have nN0 : (v2.heap.size = v5.heap.size) = False := eq_false (by have := BN.lt; omega)
    have mN0 : v2.heap.size < v5.heap.size := by have := BN.lt; omega
    have nN1 : (v2.heap.size = v5.heap.size + 1) = False := eq_false (by have := BN.lt; omega)
    have mN1 : v2.heap.size < v5.heap.size + 1 := by have := BN.lt; omega
    go_wp2_with fail
    refine upon_mul hs.sm (Sm.refl _) ?_
    intro a m ha0
    have ha : Eqv a (areaF U) := by rw [Ha.out]; exact ha0
    clear ha0
    have hg := HG.out a ha
    have HA := hid ha
    clear ha
    go_wp2_with fail
    go_ret
    exact ⟨_, rfl, ⟨_, rfl, by rw [HQ.out]; exact Eqv.refl wd_nought⟩, below_dr HB m⟩
  · replace HP := hid (HP.out rfl)
    clear HQ
    go_enter Try.func15, Try.ntmps15
    go_wp2_with fail
    refine Lp.settleC (fun w' => Lp.Bk w' (w.heap.size) #[.float .f64 t0, .float .f64 t1, .float .f64 t2, .float .f64 t3, .float .f64 t4, .float .f64 t5, .float .f64 t6, .float .f64 t7, .float .f64 t8] 26 ∧ Cl w w') ⟨Lp.Bk.al _ _ _, (HB).alloc _⟩ ?_
    clear HB
    rintro v1 ⟨BT, HB⟩
    have kT := BT.cell
    have nT0 : (w.heap.size = v1.heap.size) = False := eq_false (by have := BT.lt; omega)
    have mT0 : w.heap.size < v1.heap.size := by have := BT.lt; omega
    have nT1 : (w.heap.size = v1.heap.size + 1) = False := eq_false (by have := BT.lt; omega)
    have mT1 : w.heap.size < v1.heap.size + 1 := by have := BT.lt; omega
    refine Calls.mono (HN.out _) ?_
    rintro e v2 ⟨v, rfl, ⟨x, y, z, rfl, hx, wx⟩, hm⟩
    clear kT nT0 mT0 nT1 mT1
    replace BT := BT.keep hm
    replace HB := HB.call hm
    clear hm
    have kT := BT.cell
    have nT0 : (w.heap.size = v2.heap.size) = False := eq_false (by have := BT.lt; omega)
    have mT0 : w.heap.size < v2.heap.size := by have := BT.lt; omega
    have nT1 : (w.heap.size = v2.heap.size + 1) = False := eq_false (by have := BT.lt; omega)
    have mT1 : w.heap.size < v2.heap.size + 1 := by have := BT.lt; omega
    go_wp2_with fail
    refine Lp.settleC (fun w' => Lp.Bk w' (w.heap.size) #[.float .f64 t0, .float .f64 t1, .float .f64 t2, .float .f64 t3, .float .f64 t4, .float .f64 t5, .float .f64 t6, .float .f64 t7, .float .f64 t8] 26 ∧ Lp.Bk w' (v2.heap.size) #[.float .f64 x, .float .f64 y, .float .f64 z] 24 ∧ Cl w w') ⟨(BT).alo _, Lp.Bk.al _ _ _, (HB).alloc _⟩ ?_
    clear kT nT0 mT0 nT1 mT1
    clear BT HB
    rintro v3 ⟨BT, BN, HB⟩
    have kT := BT.cell
    have kN := BN.cell
    have nT0 : (w.heap.size = v3.heap.size) = False := eq_false (by have := BT.lt; omega)
    have mT0 : w.heap.size < v3.heap.size := by have := BT.lt; omega
    have nT1 : (w.heap.size = v3.heap.size + 1) = False := eq_false (by have := BT.lt; omega)
    have mT1 : w.heap.size < v3.heap.size + 1 := by have := BT.lt; omega
    have nN0 : (v2.heap.size = v3.heap.size) = False := eq_false (by have := BN.lt; omega)
    have mN0 : v2.heap.size < v3.heap.size := by have := BN.lt; omega
    have nN1 : (v2.heap.size = v3.heap.size + 1) = False := eq_false (by have := BN.lt; omega)
    have mN1 : v2.heap.size < v3.heap.size + 1 := by have := BN.lt; omega
    refine Calls.mono (rdot_c _ hx hx) ?_
    rintro e v4 ⟨v, rfl, ⟨d, rfl, hd⟩, hm⟩
    clear kT kN nT0 mT0 nT1 mT1 nN0 mN0 nN1 mN1
    replace BT := BT.keep hm
    replace BN := BN.keep hm
    replace HB := HB.call hm
    clear hm
    have kT := BT.cell
    have kN := BN.cell
    have nT0 : (w.heap.size = v4.heap.size) = False := eq_false (by have := BT.lt; omega)
    have mT0 : w.heap.size < v4.heap.size := by have := BT.lt; omega
    have nT1 : (w.heap.size = v4.heap.size + 1) = False := eq_false (by have := BT.lt; omega)
    have mT1 : w.heap.size < v4.heap.size + 1 := by have := BT.lt; omega
    have nN0 : (v2.heap.size = v4.heap.size) = False := eq_false (by have := BN.lt; omega)
    have mN0 : v2.heap.size < v4.heap.size := by have := BN.lt; omega
    have nN1 : (v2.heap.size = v4.heap.size + 1) = False := eq_false (by have := BN.lt; omega)
    have mN1 : v2.heap.size < v4.heap.size + 1 := by have := BN.lt; omega
    go_wp2_with fail
    refine Calls.mono (sqrt_c hd.sm _) ?_
    rintro e v5 ⟨v, rfl, ⟨s, rfl, hs⟩, hm⟩
    clear kT kN nT0 mT0 nT1 mT1 nN0 mN0 nN1 mN1
    replace BT := BT.keep hm
    replace BN := BN.keep hm
    replace HB := HB.call hm
    clear hm
    have kT := BT.cell
    have kN := BN.cell
    have nT0 : (w.heap.size = v5.heap.size) = False := eq_false (by have := BT.lt; omega)
    have mT0 : w.heap.size < v5.heap.size := by have := BT.lt; omega
    have nT1 : (w.heap.size = v5.heap.size + 1) = False := eq_false (by have := BT.lt; omega)
    have mT1 : w.heap.size < v5.heap.size + 1 := by have := BT.lt; omega
    have nN0 : (v2.heap.size = v5.heap.size) = False := eq_false (by have := BN.lt; omega)
    have mN0 : v2.heap.size < v5.heap.size := by have := BN.lt; omega
    have nN1 : (v2.heap.size = v5.heap.size + 1) = False := eq_false (by have := BN.lt; omega)
    have mN1 : v2.heap.size < v5.heap.size + 1 := by have := BN.lt; omega
    go_wp2_with fail
    refine upon_mul hs.sm (Sm.refl _) ?_
    intro a m ha0
    have ha : Eqv a (areaF U) := by rw [Ha.out]; exact ha0
    clear ha0
    have hg := HG.out a ha
    have HA := hid ha
    clear ha
    go_wp2_with fail
    refine upon_div (Sm.refl _) HA.out.sm ?_
    intro q nq hq
    go_wp2_with fail
    refine Lp.settleC (fun w' => Lp.Bk w' (w.heap.size) #[.float .f64 t0, .float .f64 t1, .float .f64 t2, .float .f64 t3, .float .f64 t4, .float .f64 t5, .float .f64 t6, .float .f64 t7, .float .f64 t8] 26 ∧ Lp.Bk w' (v2.heap.size) #[.float .f64 x, .float .f64 y, .float .f64 z] 24 ∧ Cl w w') ⟨BT.dr _, BN.dr _, HB.drewN _⟩ ?_
    clear kT kN nT0 mT0 nT1 mT1 nN0 mN0 nN1 mN1
    clear BT BN HB
    rintro v6 ⟨BT, BN, HB⟩
    have kT := BT.cell
    have kN := BN.cell
    have nT0 : (w.heap.size = v6.heap.size) = False := eq_false (by have := BT.lt; omega)
    have mT0 : w.heap.size < v6.heap.size := by have := BT.lt; omega
    have nT1 : (w.heap.size = v6.heap.size + 1) = False := eq_false (by have := BT.lt; omega)
    have mT1 : w.heap.size < v6.heap.size + 1 := by have := BT.lt; omega
    have nN0 : (v2.heap.size = v6.heap.size) = False := eq_false (by have := BN.lt; omega)
    have mN0 : v2.heap.size < v6.heap.size := by have := BN.lt; omega
    have nN1 : (v2.heap.size = v6.heap.size + 1) = False := eq_false (by have := BN.lt; omega)
    have mN1 : v2.heap.size < v6.heap.size + 1 := by have := BN.lt; omega
    refine Calls.mono (plain_any hq _) ?_
    rintro e v7 ⟨v, rfl, ⟨r, rfl, hr⟩, hm⟩
    clear kT kN nT0 mT0 nT1 mT1 nN0 mN0 nN1 mN1
    replace BT := BT.keep hm
    replace BN := BN.keep hm
    replace HB := HB.call hm
    clear hm
    have kT := BT.cell
    have kN := BN.cell
    have nT0 : (w.heap.size = v7.heap.size) = False := eq_false (by have := BT.lt; omega)
    have mT0 : w.heap.size < v7.heap.size := by have := BT.lt; omega
    have nT1 : (w.heap.size = v7.heap.size + 1) = False := eq_false (by have := BT.lt; omega)
    have mT1 : w.heap.size < v7.heap.size + 1 := by have := BT.lt; omega
    have nN0 : (v2.heap.size = v7.heap.size) = False := eq_false (by have := BN.lt; omega)
    have mN0 : v2.heap.size < v7.heap.size := by have := BN.lt; omega
    have nN1 : (v2.heap.size = v7.heap.size + 1) = False := eq_false (by have := BN.lt; omega)
    have mN1 : v2.heap.size < v7.heap.size + 1 := by have := BN.lt; omega
    go_wp2_with fail
    go_ret
    exact ⟨_, rfl, ⟨r, rfl, by rw [← HP.out]; exact hr⟩, HB⟩

set_option maxRecDepth 100000 in
set_option maxHeartbeats 1000000 in
theorem rcos_any {t0 t1 t2 t3 t4 t5 t6 t7 t8 f0 f1 f2 g0 g1 g2 : Nat} {A B C F G : V3} (hA : S3 t0 t1 t2 A) (hB : S3 t3 t4 t5 B) (hC : S3 t6 t7 t8 C) (hF : S3 f0 f1 f2 F) (hG : S3 g0 g1 g2 G) (w : World) : Ret Try.prog 22 #[.agg #[.float .f64 t0, .float .f64 t1, .float .f64 t2, .float .f64 t3, .float .f64 t4, .float .f64 t5, .float .f64 t6, .float .f64 t7, .float .f64 t8], .agg #[.float .f64 f0, .float .f64 f1, .float .f64 f2], .agg #[.float .f64 g0, .float .f64 g1, .float .f64 g2]] w (isF (cosA (G.sub F) ((B.sub A).cross (C.sub A)))) := by
  unfold Ret
  have HN := hid (fun w => rnormal_any hA hB hC w)
  have HU := hid (fun (x y z : Nat) (h : S3 x y z ((B.sub A).cross (C.sub A))) w => runit_c w h)
  have HV := hid (fun (x y z : Nat) (h : S3 x y z (G.sub F)) w => runit_c w h)
  have HO := hid (fun h => cos_off (W := G.sub F) (N := ((B.sub A).cross (C.sub A))) h)
  have HC := hid (show fsub 0 ((G.sub F).unit.dot ((B.sub A).cross (C.sub A)).unit) = cosA (G.sub F) ((B.sub A).cross (C.sub A)) from rfl)
  have HS := hid (fun w => rsub_c w hG hF)
  clear hA hB hC hF hG
  unfold isU at HU HV
  generalize ((B.sub A).cross (C.sub A)) = U at *
  generalize (G.sub F) = D at *
  generalize U.ok = b at *
  generalize D.ok = a at *
  have HB : Cl w w := Below.refl _ _
  cases a
  · cases b
    all_goals
      replace HO := hid (HO.out rfl)
      go_enter Try.func22, Try.ntmps22
      go_wp2_with fail
      refine Lp.settleC (fun w' => Lp.Bk w' (w.heap.size) #[.float .f64 t0, .float .f64 t1, .float .f64 t2, .float .f64 t3, .float .f64 t4, .float .f64 t5, .float .f64 t6, .float .f64 t7, .float .f64 t8] 26 ∧ Lp.Bk w' (w.heap.size + 1) #[.float .f64 f0, .float .f64 f1, .float .f64 f2] 24 ∧ Lp.Bk w' (w.heap.size + 1 + 1) #[.float .f64 g0, .float .f64 g1, .float .f64 g2] 24 ∧ Cl w w') ⟨((Lp.Bk.al _ _ _).alo _).alo _, (Lp.Bk.al1 _ _ _ _).alo _, Lp.Bk.al2 _ _ _ _ _, (((HB).alloc _).alloc _).alloc _⟩ ?_
      clear HB
      rintro v1 ⟨BT, BF, BG, HB⟩
      have kT := BT.cell
      have kF := BF.cell
      have kG := BG.cell
      have nT0 : (w.heap.size = v1.heap.size) = False := eq_false (by have := BT.lt; omega)
      have mT0 : w.heap.size < v1.heap.size := by have := BT.lt; omega
      have nT1 : (w.heap.size = v1.heap.size + 1) = False := eq_false (by have := BT.lt; omega)
      have mT1 : w.heap.size < v1.heap.size + 1 := by have := BT.lt; omega
      have nF0 : (w.heap.size + 1 = v1.heap.size) = False := eq_false (by have := BF.lt; omega)
      have mF0 : w.heap.size + 1 < v1.heap.size := by have := BF.lt; omega
      have nF1 : (w.heap.size = v1.heap.size) = False := eq_false (by have := BF.lt; omega)
      have mF1 : w.heap.size < v1.heap.size := by have := BF.lt; omega
      have nG0 : (w.heap.size + 1 + 1 = v1.heap.size) = False := eq_false (by have := BG.lt; omega)
      have mG0 : w.heap.size + 1 + 1 < v1.heap.size := by have := BG.lt; omega
      have nG1 : (w.heap.size + 1 = v1.heap.size) = False := eq_false (by have := BG.lt; omega)
      have mG1 : w.heap.size + 1 < v1.heap.size := by have := BG.lt; omega
      refine Calls.mono (HS.out _) ?_
      rintro e v2 ⟨v, rfl, ⟨x, y, z, rfl, hx, wx⟩, hm⟩
      clear kT kF kG nT0 mT0 nT1 mT1 nF0 mF0 nF1 mF1 nG0 mG0 nG1 mG1
      replace BT := BT.keep hm
      replace BF := BF.keep hm
      replace BG := BG.keep hm
      replace HB := HB.call hm
      clear hm
      have kT := BT.cell
      have kF := BF.cell
      have kG := BG.cell
      have nT0 : (w.heap.size = v2.heap.size) = False := eq_false (by have := BT.lt; omega)
      have mT0 : w.heap.size < v2.heap.size := by have := BT.lt; omega
      have nT1 : (w.heap.size = v2.heap.size + 1) = False := eq_false (by have := BT.lt; omega)
      have mT1 : w.heap.size < v2.heap.size + 1 := by have := BT.lt; omega
      have nF0 : (w.heap.size + 1 = v2.heap.size) = False := eq_false (by have := BF.lt; omega)
      have mF0 : w.heap.size + 1 < v2.heap.size := by have := BF.lt; omega
      have nF1 : (w.heap.size = v2.heap.size) = False := eq_false (by have := BF.lt; omega)
      have mF1 : w.heap.size < v2.heap.size := by have := BF.lt; omega
      have nG0 : (w.heap.size + 1 + 1 = v2.heap.size) = False := eq_false (by have := BG.lt; omega)
      have mG0 : w.heap.size + 1 + 1 < v2.heap.size := by have := BG.lt; omega
      have nG1 : (w.heap.size + 1 = v2.heap.size) = False := eq_false (by have := BG.lt; omega)
      have mG1 : w.heap.size + 1 < v2.heap.size := by have := BG.lt; omega
      go_wp2_with fail
      refine Calls.mono (HV.out _ _ _ hx _) ?_
      rintro e v3 ⟨v, rfl, ⟨x1, y1, z1, rfl, h1, w1⟩, hm⟩
      clear kT kF kG nT0 mT0 nT1 mT1 nF0 mF0 nF1 mF1 nG0 mG0 nG1 mG1
      replace BT := BT.keep hm
      replace BF := BF.keep hm
      replace BG := BG.keep hm
      replace HB := HB.call hm
      clear hm
      have kT := BT.cell
      have kF := BF.cell
      have kG := BG.cell
      have nT0 : (w.heap.size = v3.heap.size) = False := eq_false (by have := BT.lt; omega)
      have mT0 : w.heap.size < v3.heap.size := by have := BT.lt; omega
      have nT1 : (w.heap.size = v3.heap.size + 1) = False := eq_false (by have := BT.lt; omega)
      have mT1 : w.heap.size < v3.heap.size + 1 := by have := BT.lt; omega
      have nF0 : (w.heap.size + 1 = v3.heap.size) = False := eq_false (by have := BF.lt; omega)
      have mF0 : w.heap.size + 1 < v3.heap.size := by have := BF.lt; omega
      have nF1 : (w.heap.size = v3.heap.size) = False := eq_false (by have := BF.lt; omega)
      have mF1 : w.heap.size < v3.heap.size := by have := BF.lt; omega
      have nG0 : (w.heap.size + 1 + 1 = v3.heap.size) = False := eq_false (by have := BG.lt; omega)
      have mG0 : w.heap.size + 1 + 1 < v3.heap.size := by have := BG.lt; omega
      have nG1 : (w.heap.size + 1 = v3.heap.size) = False := eq_false (by have := BG.lt; omega)
      have mG1 : w.heap.size + 1 < v3.heap.size := by have := BG.lt; omega
      go_wp2_with fail
      refine Lp.settleC (fun w' => Lp.Bk w' (w.heap.size) #[.float .f64 t0, .float .f64 t1, .float .f64 t2, .float .f64 t3, .float .f64 t4, .float .f64 t5, .float .f64 t6, .float .f64 t7, .float .f64 t8] 26 ∧ Lp.Bk w' (w.heap.size + 1) #[.float .f64 f0, .float .f64 f1, .float .f64 f2] 24 ∧ Lp.Bk w' (w.heap.size + 1 + 1) #[.float .f64 g0, .float .f64 g1, .float .f64 g2] 24 ∧ Lp.Bk w' (v3.heap.size) #[.float .f64 x1, .float .f64 y1, .float .f64 z1] 24 ∧ Cl w w') ⟨(BT).alo _, (BF).alo _, (BG).alo _, Lp.Bk.al _ _ _, (HB).alloc _⟩ ?_
      clear kT kF kG nT0 mT0 nT1 mT1 nF0 mF0 nF1 mF1 nG0 mG0 nG1 mG1
      clear BT BF BG HB
      rintro v4 ⟨BT, BF, BG, BD, HB⟩
      have kT := BT.cell
      have kF := BF.cell
      have kG := BG.cell
      have kD := BD.cell
      have nT0 : (w.heap.size = v4.heap.size) = False := eq_false (by have := BT.lt; omega)
      have mT0 : w.heap.size < v4.heap.size := by have := BT.lt; omega
      have nT1 : (w.heap.size = v4.heap.size + 1) = False := eq_false (by have := BT.lt; omega)
      have mT1 : w.heap.size < v4.heap.size + 1 := by have := BT.lt; omega
      have nF0 : (w.heap.size + 1 = v4.heap.size) = False := eq_false (by have := BF.lt; omega)
      have mF0 : w.heap.size + 1 < v4.heap.size := by have := BF.lt; omega
      have nF1 : (w.heap.size = v4.heap.size) = False := eq_false (by have := BF.lt; omega)
      have mF1 : w.heap.size < v4.heap.size := by have := BF.lt; omega
      have nG0 : (w.heap.size + 1 + 1 = v4.heap.size) = False := eq_false (by have := BG.lt; omega)
      have mG0 : w.heap.size + 1 + 1 < v4.heap.size := by have := BG.lt; omega
      have nG1 : (w.heap.size + 1 = v4.heap.size) = False := eq_false (by have := BG.lt; omega)
      have mG1 : w.heap.size + 1 < v4.heap.size := by have := BG.lt; omega
      have nD0 : (v3.heap.size = v4.heap.size) = False := eq_false (by have := BD.lt; omega)
      have mD0 : v3.heap.size < v4.heap.size := by have := BD.lt; omega
      have nD1 : (v3.heap.size = v4.heap.size + 1) = False := eq_false (by have := BD.lt; omega)
      have mD1 : v3.heap.size < v4.heap.size + 1 := by have := BD.lt; omega
      refine Calls.mono (HN.out _) ?_
      rintro e v5 ⟨v, rfl, ⟨x2, y2, z2, rfl, h2, w2⟩, hm⟩
      clear kT kF kG kD nT0 mT0 nT1 mT1 nF0 mF0 nF1 mF1 nG0 mG0 nG1 mG1 nD0 mD0 nD1 mD1
      replace BT := BT.keep hm
      replace BF := BF.keep hm
      replace BG := BG.keep hm
      replace BD := BD.keep hm
      replace HB := HB.call hm
      clear hm
      have kT := BT.cell
      have kF := BF.cell
      have kG := BG.cell
      have kD := BD.cell
      have nT0 : (w.heap.size = v5.heap.size) = False := eq_false (by have := BT.lt; omega)
      have mT0 : w.heap.size < v5.heap.size := by have := BT.lt; omega
      have nT1 : (w.heap.size = v5.heap.size + 1) = False := eq_false (by have := BT.lt; omega)
      have mT1 : w.heap.size < v5.heap.size + 1 := by have := BT.lt; omega
      have nF0 : (w.heap.size + 1 = v5.heap.size) = False := eq_false (by have := BF.lt; omega)
      have mF0 : w.heap.size + 1 < v5.heap.size := by have := BF.lt; omega
      have nF1 : (w.heap.size = v5.heap.size) = False := eq_false (by have := BF.lt; omega)
      have mF1 : w.heap.size < v5.heap.size := by have := BF.lt; omega
      have nG0 : (w.heap.size + 1 + 1 = v5.heap.size) = False := eq_false (by have := BG.lt; omega)
      have mG0 : w.heap.size + 1 + 1 < v5.heap.size := by have := BG.lt; omega
      have nG1 : (w.heap.size + 1 = v5.heap.size) = False := eq_false (by have := BG.lt; omega)
      have mG1 : w.heap.size + 1 < v5.heap.size := by have := BG.lt; omega
      have nD0 : (v3.heap.size = v5.heap.size) = False := eq_false (by have := BD.lt; omega)
      have mD0 : v3.heap.size < v5.heap.size := by have := BD.lt; omega
      have nD1 : (v3.heap.size = v5.heap.size + 1) = False := eq_false (by have := BD.lt; omega)
      have mD1 : v3.heap.size < v5.heap.size + 1 := by have := BD.lt; omega
      go_wp2_with fail
      refine Calls.mono (HU.out _ _ _ h2 _) ?_
      rintro e v6 ⟨v, rfl, ⟨x3, y3, z3, rfl, h3, w3⟩, hm⟩
      clear kT kF kG kD nT0 mT0 nT1 mT1 nF0 mF0 nF1 mF1 nG0 mG0 nG1 mG1 nD0 mD0 nD1 mD1
      replace BT := BT.keep hm
      replace BF := BF.keep hm
      replace BG := BG.keep hm
      replace BD := BD.keep hm
      replace HB := HB.call hm
      clear hm
      have kT := BT.cell
      have kF := BF.cell
      have kG := BG.cell
      have kD := BD.cell
      have nT0 : (w.heap.size = v6.heap.size) = False := eq_false (by have := BT.lt; omega)
      have mT0 : w.heap.size < v6.heap.size := by have := BT.lt; omega
      have nT1 : (w.heap.size = v6.heap.size + 1) = False := eq_false (by have := BT.lt; omega)
      have mT1 : w.heap.size < v6.heap.size + 1 := by have := BT.lt; omega
      have nF0 : (w.heap.size + 1 = v6.heap.size) = False := eq_false (by have := BF.lt; omega)
      have mF0 : w.heap.size + 1 < v6.heap.size := by have := BF.lt; omega
      have nF1 : (w.heap.size = v6.heap.size) = False := eq_false (by have := BF.lt; omega)
      have mF1 : w.heap.size < v6.heap.size := by have := BF.lt; omega
      have nG0 : (w.heap.size + 1 + 1 = v6.heap.size) = False := eq_false (by have := BG.lt; omega)
      have mG0 : w.heap.size + 1 + 1 < v6.heap.size := by have := BG.lt; omega
      have nG1 : (w.heap.size + 1 = v6.heap.size) = False := eq_false (by have := BG.lt; omega)
      have mG1 : w.heap.size + 1 < v6.heap.size := by have := BG.lt; omega
      have nD0 : (v3.heap.size = v6.heap.size) = False := eq_false (by have := BD.lt; omega)
      have mD0 : v3.heap.size < v6.heap.size := by have := BD.lt; omega
      have nD1 : (v3.heap.size = v6.heap.size + 1) = False := eq_false (by have := BD.lt; omega)
      have mD1 : v3.heap.size < v6.heap.size + 1 := by have := BD.lt; omega
      go_wp2_with fail
      go_ret
      exact ⟨_, rfl, ⟨_, rfl, by rw [HO.out]; exact Eqv.refl wd_nought⟩, HB.alloc _⟩
  · cases b
    · replace HO := hid (HO.out rfl)
      go_enter Try.func22, Try.ntmps22
      go_wp2_with fail
      refine Lp.settleC (fun w' => Lp.Bk w' (w.heap.size) #[.float .f64 t0, .float .f64 t1, .float .f64 t2, .float .f64 t3, .float .f64 t4, .float .f64 t5, .float .f64 t6, .float .f64 t7, .float .f64 t8] 26 ∧ Lp.Bk w' (w.heap.size + 1) #[.float .f64 f0, .float .f64 f1, .float .f64 f2] 24 ∧ Lp.Bk w' (w.heap.size + 1 + 1) #[.float .f64 g0, .float .f64 g1, .float .f64 g2] 24 ∧ Cl w w') ⟨((Lp.Bk.al _ _ _).alo _).alo _, (Lp.Bk.al1 _ _ _ _).alo _, Lp.Bk.al2 _ _ _ _ _, (((HB).alloc _).alloc _).alloc _⟩ ?_
      clear HB
      rintro v1 ⟨BT, BF, BG, HB⟩
      have kT := BT.cell
      have kF := BF.cell
      have kG := BG.cell
      have nT0 : (w.heap.size = v1.heap.size) = False := eq_false (by have := BT.lt; omega)
      have mT0 : w.heap.size < v1.heap.size := by have := BT.lt; omega
      have nT1 : (w.heap.size = v1.heap.size + 1) = False := eq_false (by have := BT.lt; omega)
      have mT1 : w.heap.size < v1.heap.size + 1 := by have := BT.lt; omega
      have nF0 : (w.heap.size + 1 = v1.heap.size) = False := eq_false (by have := BF.lt; omega)
      have mF0 : w.heap.size + 1 < v1.heap.size := by have := BF.lt; omega
      have nF1 : (w.heap.size = v1.heap.size) = False := eq_false (by have := BF.lt; omega)
      have mF1 : w.heap.size < v1.heap.size := by have := BF.lt; omega
      have nG0 : (w.heap.size + 1 + 1 = v1.heap.size) = False := eq_false (by have := BG.lt; omega)
      have mG0 : w.heap.size + 1 + 1 < v1.heap.size := by have := BG.lt; omega
      have nG1 : (w.heap.size + 1 = v1.heap.size) = False := eq_false (by have := BG.lt; omega)
      have mG1 : w.heap.size + 1 < v1.heap.size := by have := BG.lt; omega
      refine Calls.mono (HS.out _) ?_
      rintro e v2 ⟨v, rfl, ⟨x, y, z, rfl, hx, wx⟩, hm⟩
      clear kT kF kG nT0 mT0 nT1 mT1 nF0 mF0 nF1 mF1 nG0 mG0 nG1 mG1
      replace BT := BT.keep hm
      replace BF := BF.keep hm
      replace BG := BG.keep hm
      replace HB := HB.call hm
      clear hm
      have kT := BT.cell
      have kF := BF.cell
      have kG := BG.cell
      have nT0 : (w.heap.size = v2.heap.size) = False := eq_false (by have := BT.lt; omega)
      have mT0 : w.heap.size < v2.heap.size := by have := BT.lt; omega
      have nT1 : (w.heap.size = v2.heap.size + 1) = False := eq_false (by have := BT.lt; omega)
      have mT1 : w.heap.size < v2.heap.size + 1 := by have := BT.lt; omega
      have nF0 : (w.heap.size + 1 = v2.heap.size) = False := eq_false (by have := BF.lt; omega)
      have mF0 : w.heap.size + 1 < v2.heap.size := by have := BF.lt; omega
      have nF1 : (w.heap.size = v2.heap.size) = False := eq_false (by have := BF.lt; omega)
      have mF1 : w.heap.size < v2.heap.size := by have := BF.lt; omega
      have nG0 : (w.heap.size + 1 + 1 = v2.heap.size) = False := eq_false (by have := BG.lt; omega)
      have mG0 : w.heap.size + 1 + 1 < v2.heap.size := by have := BG.lt; omega
      have nG1 : (w.heap.size + 1 = v2.heap.size) = False := eq_false (by have := BG.lt; omega)
      have mG1 : w.heap.size + 1 < v2.heap.size := by have := BG.lt; omega
      go_wp2_with fail
      refine Calls.mono (HV.out _ _ _ hx _) ?_
      rintro e v3 ⟨v, rfl, ⟨x1, y1, z1, rfl, h1, w1⟩, hm⟩
      clear kT kF kG nT0 mT0 nT1 mT1 nF0 mF0 nF1 mF1 nG0 mG0 nG1 mG1
      replace BT := BT.keep hm
      replace BF := BF.keep hm
      replace BG := BG.keep hm
      replace HB := HB.call hm
      clear hm
      have kT := BT.cell
      have kF := BF.cell
      have kG := BG.cell
      have nT0 : (w.heap.size = v3.heap.size) = False := eq_false (by have := BT.lt; omega)
      have mT0 : w.heap.size < v3.heap.size := by have := BT.lt; omega
      have nT1 : (w.heap.size = v3.heap.size + 1) = False := eq_false (by have := BT.lt; omega)
      have mT1 : w.heap.size < v3.heap.size + 1 := by have := BT.lt; omega
      have nF0 : (w.heap.size + 1 = v3.heap.size) = False := eq_false (by have := BF.lt; omega)
      have mF0 : w.heap.size + 1 < v3.heap.size := by have := BF.lt; omega
      have nF1 : (w.heap.size = v3.heap.size) = False := eq_false (by have := BF.lt; omega)
      have mF1 : w.heap.size < v3.heap.size := by have := BF.lt; omega
      have nG0 : (w.heap.size + 1 + 1 = v3.heap.size) = False := eq_false (by have := BG.lt; omega)
      have mG0 : w.heap.size + 1 + 1 < v3.heap.size := by have := BG.lt; omega
      have nG1 : (w.heap.size + 1 = v3.heap.size) = False := eq_false (by have := BG.lt; omega)
      have mG1 : w.heap.size + 1 < v3.heap.size := by have := BG.lt; omega
      go_wp2_with fail
      refine Lp.settleC (fun w' => Lp.Bk w' (w.heap.size) #[.float .f64 t0, .float .f64 t1, .float .f64 t2, .float .f64 t3, .float .f64 t4, .float .f64 t5, .float .f64 t6, .float .f64 t7, .float .f64 t8] 26 ∧ Lp.Bk w' (w.heap.size + 1) #[.float .f64 f0, .float .f64 f1, .float .f64 f2] 24 ∧ Lp.Bk w' (w.heap.size + 1 + 1) #[.float .f64 g0, .float .f64 g1, .float .f64 g2] 24 ∧ Lp.Bk w' (v3.heap.size) #[.float .f64 x1, .float .f64 y1, .float .f64 z1] 24 ∧ Cl w w') ⟨(BT).alo _, (BF).alo _, (BG).alo _, Lp.Bk.al _ _ _, (HB).alloc _⟩ ?_
      clear kT kF kG nT0 mT0 nT1 mT1 nF0 mF0 nF1 mF1 nG0 mG0 nG1 mG1
      clear BT BF BG HB
      rintro v4 ⟨BT, BF, BG, BD, HB⟩
      have kT := BT.cell
      have kF := BF.cell
      have kG := BG.cell
      have kD := BD.cell
      have nT0 : (w.heap.size = v4.heap.size) = False := eq_false (by have := BT.lt; omega)
      have mT0 : w.heap.size < v4.heap.size := by have := BT.lt; omega
      have nT1 : (w.heap.size = v4.heap.size + 1) = False := eq_false (by have := BT.lt; omega)
      have mT1 : w.heap.size < v4.heap.size + 1 := by have := BT.lt; omega
      have nF0 : (w.heap.size + 1 = v4.heap.size) = False := eq_false (by have := BF.lt; omega)
      have mF0 : w.heap.size + 1 < v4.heap.size := by have := BF.lt; omega
      have nF1 : (w.heap.size = v4.heap.size) = False := eq_false (by have := BF.lt; omega)
      have mF1 : w.heap.size < v4.heap.size := by have := BF.lt; omega
      have nG0 : (w.heap.size + 1 + 1 = v4.heap.size) = False := eq_false (by have := BG.lt; omega)
      have mG0 : w.heap.size + 1 + 1 < v4.heap.size := by have := BG.lt; omega
      have nG1 : (w.heap.size + 1 = v4.heap.size) = False := eq_false (by have := BG.lt; omega)
      have mG1 : w.heap.size + 1 < v4.heap.size := by have := BG.lt; omega
      have nD0 : (v3.heap.size = v4.heap.size) = False := eq_false (by have := BD.lt; omega)
      have mD0 : v3.heap.size < v4.heap.size := by have := BD.lt; omega
      have nD1 : (v3.heap.size = v4.heap.size + 1) = False := eq_false (by have := BD.lt; omega)
      have mD1 : v3.heap.size < v4.heap.size + 1 := by have := BD.lt; omega
      refine Calls.mono (HN.out _) ?_
      rintro e v5 ⟨v, rfl, ⟨x2, y2, z2, rfl, h2, w2⟩, hm⟩
      clear kT kF kG kD nT0 mT0 nT1 mT1 nF0 mF0 nF1 mF1 nG0 mG0 nG1 mG1 nD0 mD0 nD1 mD1
      replace BT := BT.keep hm
      replace BF := BF.keep hm
      replace BG := BG.keep hm
      replace BD := BD.keep hm
      replace HB := HB.call hm
      clear hm
      have kT := BT.cell
      have kF := BF.cell
      have kG := BG.cell
      have kD := BD.cell
      have nT0 : (w.heap.size = v5.heap.size) = False := eq_false (by have := BT.lt; omega)
      have mT0 : w.heap.size < v5.heap.size := by have := BT.lt; omega
      have nT1 : (w.heap.size = v5.heap.size + 1) = False := eq_false (by have := BT.lt; omega)
      have mT1 : w.heap.size < v5.heap.size + 1 := by have := BT.lt; omega
      have nF0 : (w.heap.size + 1 = v5.heap.size) = False := eq_false (by have := BF.lt; omega)
      have mF0 : w.heap.size + 1 < v5.heap.size := by have := BF.lt; omega
      have nF1 : (w.heap.size = v5.heap.size) = False := eq_false (by have := BF.lt; omega)
      have mF1 : w.heap.size < v5.heap.size := by have := BF.lt; omega
      have nG0 : (w.heap.size + 1 + 1 = v5.heap.size) = False := eq_false (by have := BG.lt; omega)
      have mG0 : w.heap.size + 1 + 1 < v5.heap.size := by have := BG.lt; omega
      have nG1 : (w.heap.size + 1 = v5.heap.size) = False := eq_false (by have := BG.lt; omega)
      have mG1 : w.heap.size + 1 < v5.heap.size := by have := BG.lt; omega
      have nD0 : (v3.heap.size = v5.heap.size) = False := eq_false (by have := BD.lt; omega)
      have mD0 : v3.heap.size < v5.heap.size := by have := BD.lt; omega
      have nD1 : (v3.heap.size = v5.heap.size + 1) = False := eq_false (by have := BD.lt; omega)
      have mD1 : v3.heap.size < v5.heap.size + 1 := by have := BD.lt; omega
      go_wp2_with fail
      refine Calls.mono (HU.out _ _ _ h2 _) ?_
      rintro e v6 ⟨v, rfl, ⟨x3, y3, z3, rfl, h3, w3⟩, hm⟩
      clear kT kF kG kD nT0 mT0 nT1 mT1 nF0 mF0 nF1 mF1 nG0 mG0 nG1 mG1 nD0 mD0 nD1 mD1
      replace BT := BT.keep hm
      replace BF := BF.keep hm
      replace BG := BG.keep hm
      replace BD := BD.keep hm
      replace HB := HB.call hm
      clear hm
      have kT := BT.cell
      have kF := BF.cell
      have kG := BG.cell
      have kD := BD.cell
      have nT0 : (w.heap.size = v6.heap.size) = False := eq_false (by have := BT.lt; omega)
      have mT0 : w.heap.size < v6.heap.size := by have := BT.lt; omega
      have nT1 : (w.heap.size = v6.heap.size + 1) = False := eq_false (by have := BT.lt; omega)
      have mT1 : w.heap.size < v6.heap.size + 1 := by have := BT.lt; omega
      have nF0 : (w.heap.size + 1 = v6.heap.size) = False := eq_false (by have := BF.lt; omega)
      have mF0 : w.heap.size + 1 < v6.heap.size := by have := BF.lt; omega
      have nF1 : (w.heap.size = v6.heap.size) = False := eq_false (by have := BF.lt; omega)
      have mF1 : w.heap.size < v6.heap.size := by have := BF.lt; omega
      have nG0 : (w.heap.size + 1 + 1 = v6.heap.size) = False := eq_false (by have := BG.lt; omega)
      have mG0 : w.heap.size + 1 + 1 < v6.heap.size := by have := BG.lt; omega
      have nG1 : (w.heap.size + 1 = v6.heap.size) = False := eq_false (by have := BG.lt; omega)
      have mG1 : w.heap.size + 1 < v6.heap.size := by have := BG.lt; omega
      have nD0 : (v3.heap.size = v6.heap.size) = False := eq_false (by have := BD.lt; omega)
      have mD0 : v3.heap.size < v6.heap.size := by have := BD.lt; omega
      have nD1 : (v3.heap.size = v6.heap.size + 1) = False := eq_false (by have := BD.lt; omega)
      have mD1 : v3.heap.size < v6.heap.size + 1 := by have := BD.lt; omega
      go_wp2_with fail
      go_ret
      exact ⟨_, rfl, ⟨_, rfl, by rw [HO.out]; exact Eqv.refl wd_nought⟩, HB.alloc _⟩
    · clear HO
      go_enter Try.func22, Try.ntmps22
      go_wp2_with fail
      refine Lp.settleC (fun w' => Lp.Bk w' (w.heap.size) #[.float .f64 t0, .float .f64 t1, .float .f64 t2, .float .f64 t3, .float .f64 t4, .float .f64 t5, .float .f64 t6, .float .f64 t7, .float .f64 t8] 26 ∧ Lp.Bk w' (w.heap.size + 1) #[.float .f64 f0, .float .f64 f1, .float .f64 f2] 24 ∧ Lp.Bk w' (w.heap.size + 1 + 1) #[.float .f64 g0, .float .f64 g1, .float .f64 g2] 24 ∧ Cl w w') ⟨((Lp.Bk.al _ _ _).alo _).alo _, (Lp.Bk.al1 _ _ _ _).alo _, Lp.Bk.al2 _ _ _ _ _, (((HB).alloc _).alloc _).alloc _⟩ ?_
      clear HB
      rintro v1 ⟨BT, BF, BG, HB⟩
      have kT := BT.cell
      have kF := BF.cell
      have kG := BG.cell
      have nT0 : (w.heap.size = v1.heap.size) = False := eq_false (by have := BT.lt; omega)
      have mT0 : w.heap.size < v1.heap.size := by have := BT.lt; omega
      have nT1 : (w.heap.size = v1.heap.size + 1) = False := eq_false (by have := BT.lt; omega)
      have mT1 : w.heap.size < v1.heap.size + 1 := by have := BT.lt; omega
      have nF0 : (w.heap.size + 1 = v1.heap.size) = False := eq_false (by have := BF.lt; omega)
      have mF0 : w.heap.size + 1 < v1.heap.size := by have := BF.lt; omega
      have nF1 : (w.heap.size = v1.heap.size) = False := eq_false (by have := BF.lt; omega)
      have mF1 : w.heap.size < v1.heap.size := by have := BF.lt; omega
      have nG0 : (w.heap.size + 1 + 1 = v1.heap.size) = False := eq_false (by have := BG.lt; omega)
      have mG0 : w.heap.size + 1 + 1 < v1.heap.size := by have := BG.lt; omega
      have nG1 : (w.heap.size + 1 = v1.heap.size) = False := eq_false (by have := BG.lt; omega)
      have mG1 : w.heap.size + 1 < v1.heap.size := by have := BG.lt; omega
      refine Calls.mono (HS.out _) ?_
      rintro e v2 ⟨v, rfl, ⟨x, y, z, rfl, hx, wx⟩, hm⟩
      clear kT kF kG nT0 mT0 nT1 mT1 nF0 mF0 nF1 mF1 nG0 mG0 nG1 mG1
      replace BT := BT.keep hm
      replace BF := BF.keep hm
      replace BG := BG.keep hm
      replace HB := HB.call hm
      clear hm
      have kT := BT.cell
      have kF := BF.cell
      have kG := BG.cell
      have nT0 : (w.heap.size = v2.heap.size) = False := eq_false (by have := BT.lt; omega)
      have mT0 : w.heap.size < v2.heap.size := by have := BT.lt; omega
      have nT1 : (w.heap.size = v2.heap.size + 1) = False := eq_false (by have := BT.lt; omega)
      have mT1 : w.heap.size < v2.heap.size + 1 := by have := BT.lt; omega
      have nF0 : (w.heap.size + 1 = v2.heap.size) = False := eq_false (by have := BF.lt; omega)
      have mF0 : w.heap.size + 1 < v2.heap.size := by have := BF.lt; omega
      have nF1 : (w.heap.size = v2.heap.size) = False := eq_false (by have := BF.lt; omega)
      have mF1 : w.heap.size < v2.heap.size := by have := BF.lt; omega
      have nG0 : (w.heap.size + 1 + 1 = v2.heap.size) = False := eq_false (by have := BG.lt; omega)
      have mG0 : w.heap.size + 1 + 1 < v2.heap.size := by have := BG.lt; omega
      have nG1 : (w.heap.size + 1 = v2.heap.size) = False := eq_false (by have := BG.lt; omega)
      have mG1 : w.heap.size + 1 < v2.heap.size := by have := BG.lt; omega
      go_wp2_with fail
      refine Calls.mono (HV.out _ _ _ hx _) ?_
      rintro e v3 ⟨v, rfl, ⟨x1, y1, z1, rfl, h1, w1⟩, hm⟩
      clear kT kF kG nT0 mT0 nT1 mT1 nF0 mF0 nF1 mF1 nG0 mG0 nG1 mG1
      replace BT := BT.keep hm
      replace BF := BF.keep hm
      replace BG := BG.keep hm
      replace HB := HB.call hm
      clear hm
      have kT := BT.cell
      have kF := BF.cell
      have kG := BG.cell
      have nT0 : (w.heap.size = v3.heap.size) = False := eq_false (by have := BT.lt; omega)
      have mT0 : w.heap.size < v3.heap.size := by have := BT.lt; omega
      have nT1 : (w.heap.size = v3.heap.size + 1) = False := eq_false (by have := BT.lt; omega)
      have mT1 : w.heap.size < v3.heap.size + 1 := by have := BT.lt; omega
      have nF0 : (w.heap.size + 1 = v3.heap.size) = False := eq_false (by have := BF.lt; omega)
      have mF0 : w.heap.size + 1 < v3.heap.size := by have := BF.lt; omega
      have nF1 : (w.heap.size = v3.heap.size) = False := eq_false (by have := BF.lt; omega)
      have mF1 : w.heap.size < v3.heap.size := by have := BF.lt; omega
      have nG0 : (w.heap.size + 1 + 1 = v3.heap.size) = False := eq_false (by have := BG.lt; omega)
      have mG0 : w.heap.size + 1 + 1 < v3.heap.size := by have := BG.lt; omega
      have nG1 : (w.heap.size + 1 = v3.heap.size) = False := eq_false (by have := BG.lt; omega)
      have mG1 : w.heap.size + 1 < v3.heap.size := by have := BG.lt; omega
      go_wp2_with fail
      refine Lp.settleC (fun w' => Lp.Bk w' (w.heap.size) #[.float .f64 t0, .float .f64 t1, .float .f64 t2, .float .f64 t3, .float .f64 t4, .float .f64 t5, .float .f64 t6, .float .f64 t7, .float .f64 t8] 26 ∧ Lp.Bk w' (w.heap.size + 1) #[.float .f64 f0, .float .f64 f1, .float .f64 f2] 24 ∧ Lp.Bk w' (w.heap.size + 1 + 1) #[.float .f64 g0, .float .f64 g1, .float .f64 g2] 24 ∧ Lp.Bk w' (v3.heap.size) #[.float .f64 x1, .float .f64 y1, .float .f64 z1] 24 ∧ Cl w w') ⟨(BT).alo _, (BF).alo _, (BG).alo _, Lp.Bk.al _ _ _, (HB).alloc _⟩ ?_
      clear kT kF kG nT0 mT0 nT1 mT1 nF0 mF0 nF1 mF1 nG0 mG0 nG1 mG1
      clear BT BF BG HB
      rintro v4 ⟨BT, BF, BG, BD, HB⟩
      have kT := BT.cell
      have kF := BF.cell
      have kG := BG.cell
      have kD := BD.cell
      have nT0 : (w.heap.size = v4.heap.size) = False := eq_false (by have := BT.lt; omega)
      have mT0 : w.heap.size < v4.heap.size := by have := BT.lt; omega
      have nT1 : (w.heap.size = v4.heap.size + 1) = False := eq_false (by have := BT.lt; omega)
      have mT1 : w.heap.size < v4.heap.size + 1 := by have := BT.lt; omega
      have nF0 : (w.heap.size + 1 = v4.heap.size) = False := eq_false (by have := BF.lt; omega)
      have mF0 : w.heap.size + 1 < v4.heap.size := by have := BF.lt; omega
      have nF1 : (w.heap.size = v4.heap.size) = False := eq_false (by have := BF.lt; omega)
      have mF1 : w.heap.size < v4.heap.size := by have := BF.lt; omega
      have nG0 : (w.heap.size + 1 + 1 = v4.heap.size) = False := eq_false (by have := BG.lt; omega)
      have mG0 : w.heap.size + 1 + 1 < v4.heap.size := by have := BG.lt; omega
      have nG1 : (w.heap.size + 1 = v4.heap.size) = False := eq_false (by have := BG.lt; omega)
      have mG1 : w.heap.size + 1 < v4.heap.size := by have := BG.lt; omega
      have nD0 : (v3.heap.size = v4.heap.size) = False := eq_false (by have := BD.lt; omega)
      have mD0 : v3.heap.size < v4.heap.size := by have := BD.lt; omega
      have nD1 : (v3.heap.size = v4.heap.size + 1) = False := eq_false (by have := BD.lt; omega)
      have mD1 : v3.heap.size < v4.heap.size + 1 := by have := BD.lt; omega
      refine Calls.mono (HN.out _) ?_
      rintro e v5 ⟨v, rfl, ⟨x2, y2, z2, rfl, h2, w2⟩, hm⟩
      clear kT kF kG kD nT0 mT0 nT1 mT1 nF0 mF0 nF1 mF1 nG0 mG0 nG1 mG1 nD0 mD0 nD1 mD1
      replace BT := BT.keep hm
      replace BF := BF.keep hm
      replace BG := BG.keep hm
      replace BD := BD.keep hm
      replace HB := HB.call hm
      clear hm
      have kT := BT.cell
      have kF := BF.cell
      have kG := BG.cell
      have kD := BD.cell
      have nT0 : (w.heap.size = v5.heap.size) = False := eq_false (by have := BT.lt; omega)
      have mT0 : w.heap.size < v5.heap.size := by have := BT.lt; omega
      have nT1 : (w.heap.size = v5.heap.size + 1) = False := eq_false (by have := BT.lt; omega)
      have mT1 : w.heap.size < v5.heap.size + 1 := by have := BT.lt; omega
      have nF0 : (w.heap.size + 1 = v5.heap.size) = False := eq_false (by have := BF.lt; omega)
      have mF0 : w.heap.size + 1 < v5.heap.size := by have := BF.lt; omega
      have nF1 : (w.heap.size = v5.heap.size) = False := eq_false (by have := BF.lt; omega)
      have mF1 : w.heap.size < v5.heap.size := by have := BF.lt; omega
      have nG0 : (w.heap.size + 1 + 1 = v5.heap.size) = False := eq_false (by have := BG.lt; omega)
      have mG0 : w.heap.size + 1 + 1 < v5.heap.size := by have := BG.lt; omega
      have nG1 : (w.heap.size + 1 = v5.heap.size) = False := eq_false (by have := BG.lt; omega)
      have mG1 : w.heap.size + 1 < v5.heap.size := by have := BG.lt; omega
      have nD0 : (v3.heap.size = v5.heap.size) = False := eq_false (by have := BD.lt; omega)
      have mD0 : v3.heap.size < v5.heap.size := by have := BD.lt; omega
      have nD1 : (v3.heap.size = v5.heap.size + 1) = False := eq_false (by have := BD.lt; omega)
      have mD1 : v3.heap.size < v5.heap.size + 1 := by have := BD.lt; omega
      go_wp2_with fail
      refine Calls.mono (HU.out _ _ _ h2 _) ?_
      rintro e v6 ⟨v, rfl, ⟨x3, y3, z3, rfl, h3, w3⟩, hm⟩
      clear kT kF kG kD nT0 mT0 nT1 mT1 nF0 mF0 nF1 mF1 nG0 mG0 nG1 mG1 nD0 mD0 nD1 mD1
      replace BT := BT.keep hm
      replace BF := BF.keep hm
      replace BG := BG.keep hm
      replace BD := BD.keep hm
      replace HB := HB.call hm
      clear hm
      have kT := BT.cell
      have kF := BF.cell
      have kG := BG.cell
      have kD := BD.cell
      have nT0 : (w.heap.size = v6.heap.size) = False := eq_false (by have := BT.lt; omega)
      have mT0 : w.heap.size < v6.heap.size := by have := BT.lt; omega
      have nT1 : (w.heap.size = v6.heap.size + 1) = False := eq_false (by have := BT.lt; omega)
      have mT1 : w.heap.size < v6.heap.size + 1 := by have := BT.lt; omega
      have nF0 : (w.heap.size + 1 = v6.heap.size) = False := eq_false (by have := BF.lt; omega)
      have mF0 : w.heap.size + 1 < v6.heap.size := by have := BF.lt; omega
      have nF1 : (w.heap.size = v6.heap.size) = False := eq_false (by have := BF.lt; omega)
      have mF1 : w.heap.size < v6.heap.size := by have := BF.lt; omega
      have nG0 : (w.heap.size + 1 + 1 = v6.heap.size) = False := eq_false (by have := BG.lt; omega)
      have mG0 : w.heap.size + 1 + 1 < v6.heap.size := by have := BG.lt; omega
      have nG1 : (w.heap.size + 1 = v6.heap.size) = False := eq_false (by have := BG.lt; omega)
      have mG1 : w.heap.size + 1 < v6.heap.size := by have := BG.lt; omega
      have nD0 : (v3.heap.size = v6.heap.size) = False := eq_false (by have := BD.lt; omega)
      have mD0 : v3.heap.size < v6.heap.size := by have := BD.lt; omega
      have nD1 : (v3.heap.size = v6.heap.size + 1) = False := eq_false (by have := BD.lt; omega)
      have mD1 : v3.heap.size < v6.heap.size + 1 := by have := BD.lt; omega
      go_wp2_with fail
      refine Lp.settleC (fun w' => Lp.Bk w' (w.heap.size) #[.float .f64 t0, .float .f64 t1, .float .f64 t2, .float .f64 t3, .float .f64 t4, .float .f64 t5, .float .f64 t6, .float .f64 t7, .float .f64 t8] 26 ∧ Lp.Bk w' (w.heap.size + 1) #[.float .f64 f0, .float .f64 f1, .float .f64 f2] 24 ∧ Lp.Bk w' (w.heap.size + 1 + 1) #[.float .f64 g0, .float .f64 g1, .float .f64 g2] 24 ∧ Lp.Bk w' (v3.heap.size) #[.float .f64 x1, .float .f64 y1, .float .f64 z1] 24 ∧ Lp.Bk w' (v6.heap.size) #[.float .f64 x3, .float .f64 y3, .float .f64 z3] 24 ∧ Cl w w') ⟨(BT).alo _, (BF).alo _, (BG).alo _, (BD).alo _, Lp.Bk.al _ _ _, (HB).alloc _⟩ ?_
      clear kT kF kG kD nT0 mT0 nT1 mT1 nF0 mF0 nF1 mF1 nG0 mG0 nG1 mG1 nD0 mD0 nD1 mD1
      clear BT BF BG BD HB
      rintro v7 ⟨BT, BF, BG, BD, BN, HB⟩
      have kT := BT.cell
      have kF := BF.cell
      have kG := BG.cell
      have kD := BD.cell
      have kN := BN.cell
      have nT0 : (w.heap.size = v7.heap.size) = False := eq_false (by have := BT.lt; omega)
      have mT0 : w.heap.size < v7.heap.size := by have := BT.lt; omega
      have nT1 : (w.heap.size = v7.heap.size + 1) = False := eq_false (by have := BT.lt; omega)
      have mT1 : w.heap.size < v7.heap.size + 1 := by have := BT.lt; omega
      have nF0 : (w.heap.size + 1 = v7.heap.size) = False := eq_false (by have := BF.lt; omega)
      have mF0 : w.heap.size + 1 < v7.heap.size := by have := BF.lt; omega
      have nF1 : (w.heap.size = v7.heap.size) = False := eq_false (by have := BF.lt; omega)
      have mF1 : w.heap.size < v7.heap.size := by have := BF.lt; omega
      have nG0 : (w.heap.size + 1 + 1 = v7.heap.size) = False := eq_false (by have := BG.lt; omega)
      have mG0 : w.heap.size + 1 + 1 < v7.heap.size := by have := BG.lt; omega
      have nG1 : (w.heap.size + 1 = v7.heap.size) = False := eq_false (by have := BG.lt; omega)
      have mG1 : w.heap.size + 1 < v7.heap.size := by have := BG.lt; omega
      have nD0 : (v3.heap.size = v7.heap.size) = False := eq_false (by have := BD.lt; omega)
      have mD0 : v3.heap.size < v7.heap.size := by have := BD.lt; omega
      have nD1 : (v3.heap.size = v7.heap.size + 1) = False := eq_false (by have := BD.lt; omega)
      have mD1 : v3.heap.size < v7.heap.size + 1 := by have := BD.lt; omega
      have nN0 : (v6.heap.size = v7.heap.size) = False := eq_false (by have := BN.lt; omega)
      have mN0 : v6.heap.size < v7.heap.size := by have := BN.lt; omega
      have nN1 : (v6.heap.size = v7.heap.size + 1) = False := eq_false (by have := BN.lt; omega)
      have mN1 : v6.heap.size < v7.heap.size + 1 := by have := BN.lt; omega
      refine Calls.mono (rdot_c _ h1 h3) ?_
      rintro e v8 ⟨v, rfl, ⟨d, rfl, hd⟩, hm⟩
      clear kT kF kG kD kN nT0 mT0 nT1 mT1 nF0 mF0 nF1 mF1 nG0 mG0 nG1 mG1 nD0 mD0 nD1 mD1 nN0 mN0 nN1 mN1
      replace BT := BT.keep hm
      replace BF := BF.keep hm
      replace BG := BG.keep hm
      replace BD := BD.keep hm
      replace BN := BN.keep hm
      replace HB := HB.call hm
      clear hm
      have kT := BT.cell
      have kF := BF.cell
      have kG := BG.cell
      have kD := BD.cell
      have kN := BN.cell
      have nT0 : (w.heap.size = v8.heap.size) = False := eq_false (by have := BT.lt; omega)
      have mT0 : w.heap.size < v8.heap.size := by have := BT.lt; omega
      have nT1 : (w.heap.size = v8.heap.size + 1) = False := eq_false (by have := BT.lt; omega)
      have mT1 : w.heap.size < v8.heap.size + 1 := by have := BT.lt; omega
      have nF0 : (w.heap.size + 1 = v8.heap.size) = False := eq_false (by have := BF.lt; omega)
      have mF0 : w.heap.size + 1 < v8.heap.size := by have := BF.lt; omega
      have nF1 : (w.heap.size = v8.heap.size) = False := eq_false (by have := BF.lt; omega)
      have mF1 : w.heap.size < v8.heap.size := by have := BF.lt; omega
      have nG0 : (w.heap.size + 1 + 1 = v8.heap.size) = False := eq_false (by have := BG.lt; omega)
      have mG0 : w.heap.size + 1 + 1 < v8.heap.size := by have := BG.lt; omega
      have nG1 : (w.heap.size + 1 = v8.heap.size) = False := eq_false (by have := BG.lt; omega)
      have mG1 : w.heap.size + 1 < v8.heap.size := by have := BG.lt; omega
      have nD0 : (v3.heap.size = v8.heap.size) = False := eq_false (by have := BD.lt; omega)
      have mD0 : v3.heap.size < v8.heap.size := by have := BD.lt; omega
      have nD1 : (v3.heap.size = v8.heap.size + 1) = False := eq_false (by have := BD.lt; omega)
      have mD1 : v3.heap.size < v8.heap.size + 1 := by have := BD.lt; omega
      have nN0 : (v6.heap.size = v8.heap.size) = False := eq_false (by have := BN.lt; omega)
      have mN0 : v6.heap.size < v8.heap.size := by have := BN.lt; omega
      have nN1 : (v6.heap.size = v8.heap.size + 1) = False := eq_false (by have := BN.lt; omega)
      have mN1 : v6.heap.size < v8.heap.size + 1 := by have := BN.lt; omega
      go_wp2_with fail
      refine upon_sub (Sm.refl _) hd.sm ?_
      intro c m hc
      go_wp2_with fail
      go_ret
      exact ⟨_, rfl, ⟨c, rfl, by rw [← HC.out]; exact hc⟩, below_dr HB m⟩

set_option maxRecDepth 100000 in
set_option maxHeartbeats 1000000 in
theorem rsol_any {t0 t1 t2 t3 t4 t5 t6 t7 t8 f0 f1 f2 g0 g1 g2 : Nat} {A B C F G : V3} (hA : S3 t0 t1 t2 A) (hB : S3 t3 t4 t5 B) (hC : S3 t6 t7 t8 C) (hF : S3 f0 f1 f2 F) (hG : S3 g0 g1 g2 G) (w : World) : Ret Try.prog 23 #[.agg #[.float .f64 t0, .float .f64 t1, .float .f64 t2, .float .f64 t3, .float .f64 t4, .float .f64 t5, .float .f64 t6, .float .f64 t7, .float .f64 t8], .agg #[.float .f64 f0, .float .f64 f1, .float .f64 f2], .agg #[.float .f64 g0, .float .f64 g1, .float .f64 g2]] w (isF (solA (G.sub F) ((B.sub A).cross (C.sub A)))) := by
  unfold Ret
  have HC := hid (fun w => rcos_any hA hB hC hF hG w)
  have HD := hid (fun w => rdens_any hA hB hC w)
  have HS := hid (fun w => rsub_c w hG hF)
  clear hA hB hC hF hG
  generalize ((B.sub A).cross (C.sub A)) = U at *
  generalize (G.sub F) = D at *
  have HQ := hid (show gtC (cosA D U) 0 = false → solA D U = 0 from fun h => quot_off h)
  have HP := hid (show gtC (cosA D U) 0 = true → plainF (fdiv (fmul (densA U) (D.dot D)) (cosA D U)) = solA D U from fun h => quot_plain (nz_prod D U) h)
  have HG := hid (fun a (h : Eqv a (cosA D U)) => gt_w h.sm (Sm.refl 0))
  generalize gtC (cosA D U) 0 = k at HQ HP HG
  have HB : Cl w w := Below.refl _ _
  cases k
  · replace HQ := hid (HQ.out rfl)
    clear HP
    go_enter Try.func23, Try.ntmps23
    go_wp2_with fail
    refine Lp.settleC (fun w' => Lp.Bk w' (w.heap.size) #[.float .f64 t0, .float .f64 t1, .float .f64 t2, .float .f64 t3, .float .f64 t4, .float .f64 t5, .float .f64 t6, .float .f64 t7, .float .f64 t8] 26 ∧ Lp.Bk w' (w.heap.size + 1) #[.float .f64 f0, .float .f64 f1, .float .f64 f2] 24 ∧ Lp.Bk w' (w.heap.size + 1 + 1) #[.float .f64 g0, .float .f64 g1, .float .f64 g2] 24 ∧ Cl w w') ⟨((Lp.Bk.al _ _ _).alo _).alo _, (Lp.Bk.al1 _ _ _ _).alo _, Lp.Bk.al2 _ _ _ _ _, (((HB).alloc _).alloc _).alloc _⟩ ?_
    clear HB
    rintro v1 ⟨BT, BF, BG, HB⟩
    have kT := BT.cell
    have kF := BF.cell
    have kG := BG.cell
    have nT0 : (w.heap.size = v1.heap.size) = False := eq_false (by have := BT.lt; omega)
    have mT0 : w.heap.size < v1.heap.size := by have := BT.lt; omega
    have nT1 : (w.heap.size = v1.heap.size + 1) = False := eq_false (by have := BT.lt; omega)
    have mT1 : w.heap.size < v1.heap.size + 1 := by have := BT.lt; omega
    have nF0 : (w.heap.size + 1 = v1.heap.size) = False := eq_false (by have := BF.lt; omega)
    have mF0 : w.heap.size + 1 < v1.heap.size := by have := BF.lt; omega
    have nF1 : (w.heap.size = v1.heap.size) = False := eq_false (by have := BF.lt; omega)
    have mF1 : w.heap.size < v1.heap.size := by have := BF.lt; omega
    have nG0 : (w.heap.size + 1 + 1 = v1.heap.size) = False := eq_false (by have := BG.lt; omega)
    have mG0 : w.heap.size + 1 + 1 < v1.heap.size := by have := BG.lt; omega
    have nG1 : (w.heap.size + 1 = v1.heap.size) = False := eq_false (by have := BG.lt; omega)
    have mG1 : w.heap.size + 1 < v1.heap.size := by have := BG.lt; omega
    refine Calls.mono (HC.out _) ?_
    rintro e v2 ⟨v, rfl, ⟨c, rfl, hc⟩, hm⟩
    clear kT kF kG nT0 mT0 nT1 mT1 nF0 mF0 nF1 mF1 nG0 mG0 nG1 mG1
    replace BT := BT.keep hm
    replace BF := BF.keep hm
    replace BG := BG.keep hm
    replace HB := HB.call hm
    clear hm
    have kT := BT.cell
    have kF := BF.cell
    have kG := BG.cell
    have nT0 : (w.heap.size = v2.heap.size) = False := eq_false (by have := BT.lt; omega)
    have mT0 : w.heap.size < v2.heap.size := by have := BT.lt; omega
    have nT1 : (w.heap.size = v2.heap.size + 1) = False := eq_false (by have := BT.lt; omega)
    have mT1 : w.heap.size < v2.heap.size + 1 := by have := BT.lt; omega
    have nF0 : (w.heap.size + 1 = v2.heap.size) = False := eq_false (by have := BF.lt; omega)
    have mF0 : w.heap.size + 1 < v2.heap.size := by have := BF.lt; omega
    have nF1 : (w.heap.size = v2.heap.size) = False := eq_false (by have := BF.lt; omega)
    have mF1 : w.heap.size < v2.heap.size := by have := BF.lt; omega
    have nG0 : (w.heap.size + 1 + 1 = v2.heap.size) = False := eq_false (by have := BG.lt; omega)
    have mG0 : w.heap.size + 1 + 1 < v2.heap.size := by have := BG.lt; omega
    have nG1 : (w.heap.size + 1 = v2.heap.size) = False := eq_false (by have := BG.lt; omega)
    have mG1 : w.heap.size + 1 < v2.heap.size := by have := BG.lt; omega
    go_wp2_with fail
    refine Calls.mono (HS.out _) ?_
    rintro e v3 ⟨v, rfl, ⟨x, y, z, rfl, hx, wx⟩, hm⟩
    clear kT kF kG nT0 mT0 nT1 mT1 nF0 mF0 nF1 mF1 nG0 mG0 nG1 mG1
    replace BT := BT.keep hm
    replace BF := BF.keep hm
    replace BG := BG.keep hm
    replace HB := HB.call hm
    clear hm
    have kT := BT.cell
    have kF := BF.cell
    have kG := BG.cell
    have nT0 : (w.heap.size = v3.heap.size) = False := eq_false (by have := BT.lt; omega)
    have mT0 : w.heap.size < v3.heap.size := by have := BT.lt; omega
    have nT1 : (w.heap.size = v3.heap.size + 1) = False := eq_false (by have := BT.lt; omega)
    have mT1 : w.heap.size < v3.heap.size + 1 := by have := BT.lt; omega
    have nF0 : (w.heap.size + 1 = v3.heap.size) = False := eq_false (by have := BF.lt; omega)
    have mF0 : w.heap.size + 1 < v3.heap.size := by have := BF.lt; omega
    have nF1 : (w.heap.size = v3.heap.size) = False := eq_false (by have := BF.lt; omega)
    have mF1 : w.heap.size < v3.heap.size := by have := BF.lt; omega
    have nG0 : (w.heap.size + 1 + 1 = v3.heap.size) = False := eq_false (by have := BG.lt; omega)
    have mG0 : w.heap.size + 1 + 1 < v3.heap.size := by have := BG.lt; omega
    have nG1 : (w.heap.size + 1 = v3.heap.size) = False := eq_false (by have := BG.lt; omega)
    have mG1 : w.heap.size + 1 < v3.heap.size := by have := BG.lt; omega
    have hg := HG.out c hc
    go_wp2_with fail
    go_ret
    exact ⟨_, rfl, ⟨_, rfl, by rw [HQ.out]; exact Eqv.refl wd_nought⟩, HB.alloc _⟩
  · replace HP := hid (HP.out rfl)
    clear HQ
    go_enter Try.func23, Try.ntmps23
    go_wp2_with fail
    refine Lp.settleC (fun w' => Lp.Bk w' (w.heap.size) #[.float .f64 t0, .float .f64 t1, .float .f64 t2, .float .f64 t3, .float .f64 t4, .float .f64 t5, .float .f64 t6, .float .f64 t7, .float .f64 t8] 26 ∧ Lp.Bk w' (w.heap.size + 1) #[.float .f64 f0, .float .f64 f1, .float .f64 f2] 24 ∧ Lp.Bk w' (w.heap.size + 1 + 1) #[.float .f64 g0, .float .f64 g1, .float .f64 g2] 24 ∧ Cl w w') ⟨((Lp.Bk.al _ _ _).alo _).alo _, (Lp.Bk.al1 _ _ _ _).alo _, Lp.Bk.al2 _ _ _ _ _, (((HB).alloc _).alloc _).alloc _⟩ ?_
    clear HB
    rintro v1 ⟨BT, BF, BG, HB⟩
    have kT := BT.cell
    have kF := BF.cell
    have kG := BG.cell
    have nT0 : (w.heap.size = v1.heap.size) = False := eq_false (by have := BT.lt; omega)
    have mT0 : w.heap.size < v1.heap.size := by have := BT.lt; omega
    have nT1 : (w.heap.size = v1.heap.size + 1) = False := eq_false (by have := BT.lt; omega)
    have mT1 : w.heap.size < v1.heap.size + 1 := by have := BT.lt; omega
    have nF0 : (w.heap.size + 1 = v1.heap.size) = False := eq_false (by have := BF.lt; omega)
    have mF0 : w.heap.size + 1 < v1.heap.size := by have := BF.lt; omega
    have nF1 : (w.heap.size = v1.heap.size) = False := eq_false (by have := BF.lt; omega)
    have mF1 : w.heap.size < v1.heap.size := by have := BF.lt; omega
    have nG0 : (w.heap.size + 1 + 1 = v1.heap.size) = False := eq_false (by have := BG.lt; omega)
    have mG0 : w.heap.size + 1 + 1 < v1.heap.size := by have := BG.lt; omega
    have nG1 : (w.heap.size + 1 = v1.heap.size) = False := eq_false (by have := BG.lt; omega)
    have mG1 : w.heap.size + 1 < v1.heap.size := by have := BG.lt; omega
    refine Calls.mono (HC.out _) ?_
    rintro e v2 ⟨v, rfl, ⟨c, rfl, hc⟩, hm⟩
    clear kT kF kG nT0 mT0 nT1 mT1 nF0 mF0 nF1 mF1 nG0 mG0 nG1 mG1
    replace BT := BT.keep hm
    replace BF := BF.keep hm
    replace BG := BG.keep hm
    replace HB := HB.call hm
    clear hm
    have kT := BT.cell
    have kF := BF.cell
    have kG := BG.cell
    have nT0 : (w.heap.size = v2.heap.size) = False := eq_false (by have := BT.lt; omega)
    have mT0 : w.heap.size < v2.heap.size := by have := BT.lt; omega
    have nT1 : (w.heap.size = v2.heap.size + 1) = False := eq_false (by have := BT.lt; omega)
    have mT1 : w.heap.size < v2.heap.size + 1 := by have := BT.lt; omega
    have nF0 : (w.heap.size + 1 = v2.heap.size) = False := eq_false (by have := BF.lt; omega)
    have mF0 : w.heap.size + 1 < v2.heap.size := by have := BF.lt; omega
    have nF1 : (w.heap.size = v2.heap.size) = False := eq_false (by have := BF.lt; omega)
    have mF1 : w.heap.size < v2.heap.size := by have := BF.lt; omega
    have nG0 : (w.heap.size + 1 + 1 = v2.heap.size) = False := eq_false (by have := BG.lt; omega)
    have mG0 : w.heap.size + 1 + 1 < v2.heap.size := by have := BG.lt; omega
    have nG1 : (w.heap.size + 1 = v2.heap.size) = False := eq_false (by have := BG.lt; omega)
    have mG1 : w.heap.size + 1 < v2.heap.size := by have := BG.lt; omega
    go_wp2_with fail
    refine Calls.mono (HS.out _) ?_
    rintro e v3 ⟨v, rfl, ⟨x, y, z, rfl, hx, wx⟩, hm⟩
    clear kT kF kG nT0 mT0 nT1 mT1 nF0 mF0 nF1 mF1 nG0 mG0 nG1 mG1
    replace BT := BT.keep hm
    replace BF := BF.keep hm
    replace BG := BG.keep hm
    replace HB := HB.call hm
    clear hm
    have kT := BT.cell
    have kF := BF.cell
    have kG := BG.cell
    have nT0 : (w.heap.size = v3.heap.size) = False := eq_false (by have := BT.lt; omega)
    have mT0 : w.heap.size < v3.heap.size := by have := BT.lt; omega
    have nT1 : (w.heap.size = v3.heap.size + 1) = False := eq_false (by have := BT.lt; omega)
    have mT1 : w.heap.size < v3.heap.size + 1 := by have := BT.lt; omega
    have nF0 : (w.heap.size + 1 = v3.heap.size) = False := eq_false (by have := BF.lt; omega)
    have mF0 : w.heap.size + 1 < v3.heap.size := by have := BF.lt; omega
    have nF1 : (w.heap.size = v3.heap.size) = False := eq_false (by have := BF.lt; omega)
    have mF1 : w.heap.size < v3.heap.size := by have := BF.lt; omega
    have nG0 : (w.heap.size + 1 + 1 = v3.heap.size) = False := eq_false (by have := BG.lt; omega)
    have mG0 : w.heap.size + 1 + 1 < v3.heap.size := by have := BG.lt; omega
    have nG1 : (w.heap.size + 1 = v3.heap.size) = False := eq_false (by have := BG.lt; omega)
    have mG1 : w.heap.size + 1 < v3.heap.size := by have := BG.lt; omega
    have hg := HG.out c hc
    go_wp2_with fail
    refine Lp.settle (fun w' => Lp.Bk w' (w.heap.size) #[.float .f64 t0, .float .f64 t1, .float .f64 t2, .float .f64 t3, .float .f64 t4, .float .f64 t5, .float .f64 t6, .float .f64 t7, .float .f64 t8] 26 ∧ Lp.Bk w' (w.heap.size + 1) #[.float .f64 f0, .float .f64 f1, .float .f64 f2] 24 ∧ Lp.Bk w' (w.heap.size + 1 + 1) #[.float .f64 g0, .float .f64 g1, .float .f64 g2] 24 ∧ Lp.Bk w' (v3.heap.size) #[.float .f64 x, .float .f64 y, .float .f64 z] 24 ∧ Cl w w') ⟨(BT).alo _, (BF).alo _, (BG).alo _, Lp.Bk.al _ _ _, (HB).alloc _⟩ ?_
    clear kT kF kG nT0 mT0 nT1 mT1 nF0 mF0 nF1 mF1 nG0 mG0 nG1 mG1
    clear BT BF BG HB
    rintro v4 ⟨BT, BF, BG, BD, HB⟩
    have kT := BT.cell
    have kF := BF.cell
    have kG := BG.cell
    have kD := BD.cell
    have nT0 : (w.heap.size = v4.heap.size) = False := eq_false (by have := BT.lt; omega)
    have mT0 : w.heap.size < v4.heap.size := by have := BT.lt; omega
    have nT1 : (w.heap.size = v4.heap.size + 1) = False := eq_false (by have := BT.lt; omega)
    have mT1 : w.heap.size < v4.heap.size + 1 := by have := BT.lt; omega
    have nF0 : (w.heap.size + 1 = v4.heap.size) = False := eq_false (by have := BF.lt; omega)
    have mF0 : w.heap.size + 1 < v4.heap.size := by have := BF.lt; omega
    have nF1 : (w.heap.size = v4.heap.size) = False := eq_false (by have := BF.lt; omega)
    have mF1 : w.heap.size < v4.heap.size := by have := BF.lt; omega
    have nG0 : (w.heap.size + 1 + 1 = v4.heap.size) = False := eq_false (by have := BG.lt; omega)
    have mG0 : w.heap.size + 1 + 1 < v4.heap.size := by have := BG.lt; omega
    have nG1 : (w.heap.size + 1 = v4.heap.size) = False := eq_false (by have := BG.lt; omega)
    have mG1 : w.heap.size + 1 < v4.heap.size := by have := BG.lt; omega
    have nD0 : (v3.heap.size = v4.heap.size) = False := eq_false (by have := BD.lt; omega)
    have mD0 : v3.heap.size < v4.heap.size := by have := BD.lt; omega
    have nD1 : (v3.heap.size = v4.heap.size + 1) = False := eq_false (by have := BD.lt; omega)
    have mD1 : v3.heap.size < v4.heap.size + 1 := by have := BD.lt; omega
    apply Lp.wp_region_loose _ _ 7 (by kernel_rfl) (by kernel_rfl) (by kernel_rfl) (Below.refl _ _)
    apply Lp.facts
    · intro w1 hw
      exact And.intro (BT.cl hw).cell (And.intro (BF.cl hw).cell (And.intro (BG.cl hw).cell ((BD.cl hw).cell)))
    intro HF
    iterate 1 (
      apply Lp.one ?_ rfl
      · intro w hw
        obtain ⟨k0, k1, k2, k3⟩ := HF.out _ hw
        go_simp
        exact rfl
      intro K hK
      go_simp
      refine hK.out _ ?_
      clear hK K)
    apply Lp.any rfl
    · intro w hw
      go_simp
      exact Lp.ret (HD.out _)
    intro K hK
    rintro v ⟨d, rfl, hd⟩
    go_simp
    refine hK.out _ ?_
    clear hK K
    iterate 2 (
      apply Lp.one ?_ rfl
      · intro w hw
        obtain ⟨k0, k1, k2, k3⟩ := HF.out _ hw
        go_simp
        exact rfl
      intro K hK
      go_simp
      refine hK.out _ ?_
      clear hK K)
    apply Lp.any rfl
    · intro w hw
      go_simp
      exact Lp.ret (rdot_c _ hx hx)
    intro K hK
    rintro v ⟨n, rfl, hn⟩
    go_simp
    refine hK.out _ ?_
    clear hK K
    apply Lp.any rfl
    · intro w hw
      go_simp
      exact Lp.mul (by first | exact Eqv.sm (by assumption) | exact Sm.refl _) (by first | exact Eqv.sm (by assumption) | exact Sm.refl _)
    intro K hK
    rintro v ⟨rq0, rfl, hq0⟩
    go_simp
    refine hK.out _ ?_
    clear hK K
    iterate 1 (
      apply Lp.one ?_ rfl
      · intro w hw
        obtain ⟨k0, k1, k2, k3⟩ := HF.out _ hw
        go_simp
        exact rfl
      intro K hK
      go_simp
      refine hK.out _ ?_
      clear hK K)
    rotate_left
    exact []
    intro v5 hm
    clear kT kF kG kD nT0 mT0 nT1 mT1 nF0 mF0 nF1 mF1 nG0 mG0 nG1 mG1 nD0 mD0 nD1 mD1
    replace BT := BT.keep hm
    replace BF := BF.keep hm
    replace BG := BG.keep hm
    replace BD := BD.keep hm
    replace HB := HB.call hm
    clear hm
    have kT := BT.cell
    have kF := BF.cell
    have kG := BG.cell
    have kD := BD.cell
    have nT0 : (w.heap.size = v5.heap.size) = False := eq_false (by have := BT.lt; omega)
    have mT0 : w.heap.size < v5.heap.size := by have := BT.lt; omega
    have nT1 : (w.heap.size = v5.heap.size + 1) = False := eq_false (by have := BT.lt; omega)
    have mT1 : w.heap.size < v5.heap.size + 1 := by have := BT.lt; omega
    have nF0 : (w.heap.size + 1 = v5.heap.size) = False := eq_false (by have := BF.lt; omega)
    have mF0 : w.heap.size + 1 < v5.heap.size := by have := BF.lt; omega
    have nF1 : (w.heap.size = v5.heap.size) = False := eq_false (by have := BF.lt; omega)
    have mF1 : w.heap.size < v5.heap.size := by have := BF.lt; omega
    have nG0 : (w.heap.size + 1 + 1 = v5.heap.size) = False := eq_false (by have := BG.lt; omega)
    have mG0 : w.heap.size + 1 + 1 < v5.heap.size := by have := BG.lt; omega
    have nG1 : (w.heap.size + 1 = v5.heap.size) = False := eq_false (by have := BG.lt; omega)
    have mG1 : w.heap.size + 1 < v5.heap.size := by have := BG.lt; omega
    have nD0 : (v3.heap.size = v5.heap.size) = False := eq_false (by have := BD.lt; omega)
    have mD0 : v3.heap.size < v5.heap.size := by have := BD.lt; omega
    have nD1 : (v3.heap.size = v5.heap.size + 1) = False := eq_false (by have := BD.lt; omega)
    have mD1 : v3.heap.size < v5.heap.size + 1 := by have := BD.lt; omega
    go_wp2_with fail
    refine upon_div hq0.sm hc.sm ?_
    intro q nq hq
    go_wp2_with fail
    refine Lp.settleC (fun w' => Lp.Bk w' (w.heap.size) #[.float .f64 t0, .float .f64 t1, .float .f64 t2, .float .f64 t3, .float .f64 t4, .float .f64 t5, .float .f64 t6, .float .f64 t7, .float .f64 t8] 26 ∧ Lp.Bk w' (w.heap.size + 1) #[.float .f64 f0, .float .f64 f1, .float .f64 f2] 24 ∧ Lp.Bk w' (w.heap.size + 1 + 1) #[.float .f64 g0, .float .f64 g1, .float .f64 g2] 24 ∧ Lp.Bk w' (v3.heap.size) #[.float .f64 x, .float .f64 y, .float .f64 z] 24 ∧ Cl w w') ⟨BT.dr _, BF.dr _, BG.dr _, BD.dr _, HB.drewN _⟩ ?_
    clear kT kF kG kD nT0 mT0 nT1 mT1 nF0 mF0 nF1 mF1 nG0 mG0 nG1 mG1 nD0 mD0 nD1 mD1
    clear BT BF BG BD HB
    rintro v6 ⟨BT, BF, BG, BD, HB⟩
    have kT := BT.cell
    have kF := BF.cell
    have kG := BG.cell
    have kD := BD.cell
    have nT0 : (w.heap.size = v6.heap.size) = False := eq_false (by have := BT.lt; omega)
    have mT0 : w.heap.size < v6.heap.size := by have := BT.lt; omega
    have nT1 : (w.heap.size = v6.heap.size + 1) = False := eq_false (by have := BT.lt; omega)
    have mT1 : w.heap.size < v6.heap.size + 1 := by have := BT.lt; omega
    have nF0 : (w.heap.size + 1 = v6.heap.size) = False := eq_false (by have := BF.lt; omega)
    have mF0 : w.heap.size + 1 < v6.heap.size := by have := BF.lt; omega
    have nF1 : (w.heap.size = v6.heap.size) = False := eq_false (by have := BF.lt; omega)
    have mF1 : w.heap.size < v6.heap.size := by have := BF.lt; omega
    have nG0 : (w.heap.size + 1 + 1 = v6.heap.size) = False := eq_false (by have := BG.lt; omega)
    have mG0 : w.heap.size + 1 + 1 < v6.heap.size := by have := BG.lt; omega
    have nG1 : (w.heap.size + 1 = v6.heap.size) = False := eq_false (by have := BG.lt; omega)
    have mG1 : w.heap.size + 1 < v6.heap.size := by have := BG.lt; omega
    have nD0 : (v3.heap.size = v6.heap.size) = False := eq_false (by have := BD.lt; omega)
    have mD0 : v3.heap.size < v6.heap.size := by have := BD.lt; omega
    have nD1 : (v3.heap.size = v6.heap.size + 1) = False := eq_false (by have := BD.lt; omega)
    have mD1 : v3.heap.size < v6.heap.size + 1 := by have := BD.lt; omega
    refine Calls.mono (plain_any hq _) ?_
    rintro e v7 ⟨v, rfl, ⟨r, rfl, hr⟩, hm⟩
    clear kT kF kG kD nT0 mT0 nT1 mT1 nF0 mF0 nF1 mF1 nG0 mG0 nG1 mG1 nD0 mD0 nD1 mD1
    replace BT := BT.keep hm
    replace BF := BF.keep hm
    replace BG := BG.keep hm
    replace BD := BD.keep hm
    replace HB := HB.call hm
    clear hm
    have kT := BT.cell
    have kF := BF.cell
    have kG := BG.cell
    have kD := BD.cell
    have nT0 : (w.heap.size = v7.heap.size) = False := eq_false (by have := BT.lt; omega)
    have mT0 : w.heap.size < v7.heap.size := by have := BT.lt; omega
    have nT1 : (w.heap.size = v7.heap.size + 1) = False := eq_false (by have := BT.lt; omega)
    have mT1 : w.heap.size < v7.heap.size + 1 := by have := BT.lt; omega
    have nF0 : (w.heap.size + 1 = v7.heap.size) = False := eq_false (by have := BF.lt; omega)
    have mF0 : w.heap.size + 1 < v7.heap.size := by have := BF.lt; omega
    have nF1 : (w.heap.size = v7.heap.size) = False := eq_false (by have := BF.lt; omega)
    have mF1 : w.heap.size < v7.heap.size := by have := BF.lt; omega
    have nG0 : (w.heap.size + 1 + 1 = v7.heap.size) = False := eq_false (by have := BG.lt; omega)
    have mG0 : w.heap.size + 1 + 1 < v7.heap.size := by have := BG.lt; omega
    have nG1 : (w.heap.size + 1 = v7.heap.size) = False := eq_false (by have := BG.lt; omega)
    have mG1 : w.heap.size + 1 < v7.heap.size := by have := BG.lt; omega
    have nD0 : (v3.heap.size = v7.heap.size) = False := eq_false (by have := BD.lt; omega)
    have mD0 : v3.heap.size < v7.heap.size := by have := BD.lt; omega
    have nD1 : (v3.heap.size = v7.heap.size + 1) = False := eq_false (by have := BD.lt; omega)
    have mD1 : v3.heap.size < v7.heap.size + 1 := by have := BD.lt; omega
    go_wp2_with fail
    go_ret
    exact ⟨_, rfl, ⟨r, rfl, by rw [← HP.out]; exact hr⟩, HB⟩

end Go.Proofs.Ytjcdmdjkolmliaa
